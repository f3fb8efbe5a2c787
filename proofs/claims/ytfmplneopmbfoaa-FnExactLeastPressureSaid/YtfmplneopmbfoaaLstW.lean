/-
  The law's own helpers over lists: a copy, the test of equality, marking and the look for marks; one contract each.
-/
import Derived.Test.YtfmplneopmbfoaaLst
import Derived.Test.YtfmplneopmbfoaaLan
import Derived.LoopTactic
import Derived.WalkLawsBesides
import Derived.Outline
import Derived.Deep.QuietTactic
import Derived.BigQuiet
import Derived.IntWalk
namespace Go.Proofs.Ytfmplneopmbfoaa.Wds
open Go.RowKit
set_option linter.unusedVariables false

theorem A_info64 : (Try.prog.info? 2).map (fun i => (i.zero, i.size, i.bytes)) = some (some (.int .i64 0), 1, 8) := by kernel_rfl
theorem ret_i {k : IntKind} {a b : Int} (h : a = b) : Ending.returned (.int k a) = .returned (.int k b) := by rw [h]
theorem Rd.of_row {w : World} {a : Option Addr} {len cap : Nat} {zs : List Int} (h : IsRow .i64 w a len cap zs) : Rd w w.heap.size a len (zs.take len) := by
  rcases h with ⟨rfl, rfl, rfl, rfl⟩ | ⟨x, rfl, h2, h3, h4, h5, h6⟩
  · exact Rd.nil _ _ _
  · refine ⟨by simp; omega, fun hn => ?_⟩
    obtain ⟨ab, off, spot⟩ := x
    have hspot : spot = none := by simpa [Addr.add] using World.cell?_spot (h5 0 (by omega))
    subst hspot
    have hb := World.block_lt_of_cell? w _ (h5 0 (by omega))
    refine ⟨ab, off, rfl, by simpa [Addr.add] using hb, fun j z hz => ?_⟩
    rw [List.getElem?_take] at hz
    split at hz
    · rename_i hj
      have hj' : j < zs.length := by omega
      have hc := h5 j hj'
      have he : zs.getD j 0 = z := by rw [List.getD_eq_getElem?_getD, hz]; rfl
      rw [he] at hc
      by_cases h0 : j = 0
      · subst h0; simpa [Addr.add] using hc
      · simpa [Addr.add, h0] using hc
    · cases hz
/-- A list and a Bool are returned: the list's row is new. -/
def Ret1 (zs : List Int) (ok : Bool) (w : World) (e : Ending) (w' : World) : Prop :=
  ∃ A n c, e = .returned (.tuple #[.slice A n c, .bool ok]) ∧ Own w' w.heap.size w'.heap.size A n zs ∧ n ≤ 1048576 ∧ Below w.heap.size w w'
/-- A list is returned: its row is new. -/
def RetL (zs : List Int) (w : World) (e : Ending) (w' : World) : Prop :=
  ∃ A n c, e = .returned (.slice A n c) ∧ Own w' w.heap.size w'.heap.size A n zs ∧ n ≤ 1048576 ∧ n ≤ c ∧ Below w.heap.size w w'
/-- A number and a Bool are returned. -/
def RetIB (z : Int) (ok : Bool) (w : World) (e : Ending) (w' : World) : Prop :=
  e = .returned (.tuple #[.int .i64 z, .bool ok]) ∧ Below w.heap.size w w'
/-- Two rows share no cell. -/
def Apart (A : Option Addr) (n : Nat) (A' : Option Addr) (n' : Nat) : Prop :=
  ∀ g o g' o', A = some ⟨g, o, none⟩ → A' = some ⟨g', o', none⟩ → g ≠ g' ∨ o + n ≤ o' ∨ o' + n' ≤ o
theorem Apart.symm {A A' : Option Addr} {n n' : Nat} (h : Apart A n A' n') : Apart A' n' A n := by
  intro g o g' o' e e'
  rcases h g' o' g o e' e with h | h | h
  · exact .inl (Ne.symm h)
  · exact .inr (.inr h)
  · exact .inr (.inl h)
/-- Two lists and a Bool are returned: the lists' rows are new and share no cell. -/
def Ret2 (zs ys : List Int) (ok : Bool) (w : World) (e : Ending) (w' : World) : Prop :=
  ∃ A n c A' n' c', e = .returned (.tuple #[.slice A n c, .slice A' n' c', .bool ok]) ∧ Own w' w.heap.size w'.heap.size A n zs ∧ Own w' w.heap.size w'.heap.size A' n' ys ∧ Apart A n A' n' ∧ n ≤ 1048576 ∧ n' ≤ 1048576 ∧ Below w.heap.size w w'
/-- A copy is returned: a new row of its own. -/
def Copied (n : Nat) (zs : List Int) (w : World) (e : Ending) (w' : World) : Prop :=
  ∃ g, e = .returned (.slice (some ⟨g, 0, none⟩) n n) ∧ Own w' w.heap.size w'.heap.size (some ⟨g, 0, none⟩) n zs ∧ Below w.heap.size w w'
/-- The relation of a loop that fills a block of its own, lane by lane. -/
def Fills (f : Nat → Int) (n g : Nat) (w : World) (i : Value) (wr : World) : Prop :=
  ∃ k : Nat, k ≤ n ∧ i = .int .i64 k ∧ Blk wr g (clls (Ln.fill f n k)) ∧ Below w.heap.size w wr
set_option maxHeartbeats 400000 in
theorem toS_any (A : Option Addr) (n c : Nat) (zs : List Int) (B : Nat) (w : World) (hn : n ≤ 1048576) (h : Rd w B A n zs) :
    Calls Try.prog 29 #[.slice A n c] w (Copied n zs w) := by
  obtain ⟨i0, hi, hz0, hz1, hz2⟩ := info_parts A_info64
  have H := Lib.hid h; clear h
  go_enter Try.func29, Try.ntmps29
  go_wp2_with (refine wpList_make_blk _ rfl _ _ _ rfl i0 Try.underlying25 hi hz0 hz1 hz2 _ _ _ _ n rfl rfl rfl rfl (by omega) ?_)
  go_loopw [4] (fun i wr => Fills (fun j => zs.getD j 0) n w.heap.size w i wr) (fun i _ => n - (intOf i).toNat)
  case atStart =>
    exact ⟨0, Nat.zero_le _, rfl, by rw [Ln.fill_zero, ← clls_zero]; exact Blk.new _ _, (Below.refl _ _).alloc (Nat.le_refl _) _⟩
  case round =>
    obtain ⟨k, hk, rfl, hblk, hb⟩ := hrel
    by_cases hlt : k < n
    · obtain ⟨g, o, rfl, hg, hc⟩ := H.out.at_ hlt
      have hg2 := World.block_lt_of_cell? w _ hc
      have hl := (Ln.fill_len (fun j => zs.getD j 0) n k hk)
      have hc' := (hb.cell (p := ⟨g, o + k, none⟩) hg2).trans hc
      have hf := hblk.frozen k
      obtain ⟨v0, hv0⟩ : ∃ v, wr.cell? ⟨w.heap.size, k, none⟩ = some v := ⟨_, (hblk.cell k).trans (clls_get (by rw [hl]; exact hlt))⟩
      have HN := Lib.hid (hblk.set_ k (.int .i64 (zs.getD k 0)))
      have HB := Lib.hid (hb.setCell (p := ⟨w.heap.size, k, none⟩) (Nat.le_refl _) (.int .i64 (zs.getD k 0)))
      obtain ⟨z, hz⟩ : ∃ z, z = zs.getD k 0 := ⟨_, rfl⟩
      rw [← hz] at hc' HN HB
      have HZ := Lib.hid hz; clear hz hc hl hblk hb
      go_wp2
      go_roundw
      case rel =>
        refine ⟨k + 1, by omega, by go_num, ?_, HB.out⟩
        have e := Ln.fill_set (fun j => zs.getD j 0) n k hlt
        have := HN.out
        rw [HZ.out, clls_set, e] at this
        rw [HZ.out]; exact this
      case measure => simp [intOf]; omega
    · have hkn : k = n := by omega
      have HALL := Lib.hid (And.intro hblk (And.intro hb hkn)); clear hblk hb hkn
      go_wp2
      go_ret
      obtain ⟨hblk, hb, rfl⟩ := HALL.out
      rw [Ln.fill_all] at hblk
      have e := Ln.tab_self zs
      rw [H.out.len] at e
      rw [e] at hblk
      exact ⟨_, rfl, Own.of_blk hblk H.out.len (Nat.le_refl _), hb⟩
theorem below_drewN {B : Nat} {a w : World} (h : Below B a w) (n : Nat) : Below B a (w.drewN n) := ⟨h.os, h.tape, h.output, h.size, h.block⟩
/-- Two lists that read alike are equal. -/
theorem eqS_same (A A' : Option Addr) (n c c' : Nat) (zs : List Int) (B B' : Nat) (w : World) (hn : n ≤ 1048576) (h : Rd w B A n zs) (h' : Rd w B' A' n zs) :
    Calls Try.prog 30 #[.slice A n c, .slice A' n c'] w fun e w' => e = .returned (.bool true) ∧ Below w.heap.size w w' := by
  have H := Lib.hid h; clear h
  have H' := Lib.hid h'; clear h'
  go_enter Try.func30, Try.ntmps30
  go_wp2
  go_loopw [5] (fun i wr => ∃ k : Nat, k ≤ n ∧ i = .int .i64 k ∧ Below w.heap.size w wr) (fun i _ => n - (intOf i).toNat)
  case atStart => exact ⟨0, Nat.zero_le _, rfl, Below.refl _ _⟩
  case round =>
    obtain ⟨k, hk, rfl, hb⟩ := hrel
    by_cases hlt : k < n
    · obtain ⟨g, o, rfl, hg, hc⟩ := H.out.at_ hlt
      obtain ⟨g', o', rfl, hg', hc'⟩ := H'.out.at_ hlt
      have hd := (hb.cell (p := ⟨g, o + k, none⟩) (World.block_lt_of_cell? w _ hc)).trans hc
      have hd' := (hb.cell (p := ⟨g', o' + k, none⟩) (World.block_lt_of_cell? w _ hc')).trans hc'
      obtain ⟨z, hz⟩ : ∃ z, z = zs.getD k 0 := ⟨_, rfl⟩
      rw [← hz] at hd hd'
      have HB := Lib.hid hb; clear hz hc hc' hb
      have i1 : (0 : Int) ≤ (k : Int) := by omega
      have i2 : (k : Int) < (n : Int) := by omega
      go_wp2
      go_quiet (fail)
      go_wp2
      go_roundw
      case rel => exact ⟨k + 1, by omega, by go_num, below_drewN HB.out _⟩
      case measure => simp [intOf]; omega
    · have hkn : k = n := by omega
      have HB := Lib.hid hb; clear hb hkn
      go_wp2
      go_ret
      exact ⟨rfl, HB.out⟩
/-- The marks from k on. -/
def marks (k : Int) (n : Nat) : List Int := Ln.tab (fun i => k + i) n
theorem frozen_of {w : World} {lo hi n : Nat} {A : Option Addr} {zs : List Int} (h : Own w lo hi A n zs) {k g o : Nat} (hk : k < n) (hA : A = some ⟨g, o, none⟩) : w.frozen? ⟨g, o + k, none⟩ = false ∧ lo ≤ g ∧ g < hi ∧ ∃ v, w.cell? ⟨g, o + k, none⟩ = some v := by
  obtain ⟨g', o', cs, e, h1, h2, hg, hc⟩ := h.2 (by omega)
  subst hA
  injection e with e
  injection e with e1 e2
  subst e1; subst e2
  have hl : k < zs.length := by have := h.1; omega
  exact ⟨hg.frozen _, h1, h2, _, (hg.cell _).trans (hc k _ (List.getElem?_eq_getElem hl))⟩
/-- A store into an owned row. -/
theorem Own.store {w : World} {lo hi n g o k : Nat} {zs : List Int} (h : Own w lo hi (some ⟨g, o, none⟩) n zs) (hk : k < n) (v : Int) : Own (w.setCell ⟨g, o + k, none⟩ (.int .i64 v)) lo hi (some ⟨g, o, none⟩) n (zs.set k v) := by
  refine ⟨by simp [h.1], fun hn => ?_⟩
  obtain ⟨g', o', cs, e, h1, h2, hg, hc⟩ := h.2 (by omega)
  injection e with e
  injection e with e1 e2
  subst e1; subst e2
  refine ⟨g, o, _, rfl, h1, h2, hg.set_ _ _, fun j z hz => ?_⟩
  have hl : k < zs.length := by have := h.1; omega
  have hck := hc k _ (List.getElem?_eq_getElem hl)
  have hlt : o + k < cs.size := (Array.getElem?_eq_some_iff.1 hck).1
  rw [List.getElem?_set] at hz
  rw [Array.getElem?_setIfInBounds]
  by_cases hj : k = j
  · subst hj
    rw [if_pos rfl, if_pos hlt]
    rw [if_pos rfl, if_pos hl] at hz
    injection hz with hz; rw [hz]
  · rw [if_neg hj] at hz
    rw [if_neg (by omega)]
    exact hc j z hz
/-- A store elsewhere. -/
theorem Own.far {w : World} {lo hi n n' g o k : Nat} {A : Option Addr} {zs : List Int} (h : Own w lo hi A n zs) (ha : Apart (some ⟨g, o, none⟩) n' A n) (hk : k < n') (v : Value) : Own (w.setCell ⟨g, o + k, none⟩ v) lo hi A n zs := by
  refine ⟨h.1, fun hn => ?_⟩
  obtain ⟨g', o', cs, e, h1, h2, hg, hc⟩ := h.2 hn
  by_cases hgg : g' = g
  · subst hgg
    refine ⟨g', o', _, e, h1, h2, hg.set_ _ _, fun j z hz => ?_⟩
    have hj : j < n := by rw [← h.1]; exact (List.getElem?_eq_some_iff.1 hz).1
    rw [Array.getElem?_setIfInBounds, if_neg]
    · exact hc j z hz
    · rcases ha _ _ _ _ rfl e with h | h | h <;> omega
  · exact ⟨g', o', cs, e, h1, h2, hg.far (p := ⟨g, o + k, none⟩) hgg v, hc⟩
theorem marks_set (k0 : Int) (zs : List Int) (k : Nat) (h : k < zs.length) : (marks k0 k ++ zs.drop k).set k (k0 + k) = marks k0 (k + 1) ++ zs.drop (k + 1) := by
  unfold marks
  rw [List.set_append_right _ _ (by simp [Ln.tab]), Ln.tab_len, Nat.sub_self, Ln.tab_succ, List.drop_eq_getElem_cons h, List.set_cons_zero]
  simp
/-- The relation of the loop that marks. -/
def Marking (k0 : Int) (A : Option Addr) (n lo hi : Nat) (zs : List Int) (w : World) (kv i : Value) (wr : World) : Prop :=
  ∃ k : Nat, k ≤ n ∧ i = .int .i64 k ∧ kv = .int .i64 (k0 + k) ∧ Own wr lo hi A n (marks k0 k ++ zs.drop k) ∧ Ch lo hi w wr ∧
    (∀ lo' hi' A' n' ys, Apart A n A' n' → Own w lo' hi' A' n' ys → Own wr lo' hi' A' n' ys)
/-- What marking leaves. -/
def Marked (k0 : Int) (A : Option Addr) (n lo hi : Nat) (w : World) (e : Ending) (w' : World) : Prop :=
  e = .returned (.int .i64 (k0 + n)) ∧ Own w' lo hi A n (marks k0 n) ∧ Ch lo hi w w' ∧
    (∀ lo' hi' A' n' ys, Apart A n A' n' → Own w lo' hi' A' n' ys → Own w' lo' hi' A' n' ys)
set_option maxHeartbeats 400000 in
theorem markS_any (A : Option Addr) (n c : Nat) (zs : List Int) (lo hi : Nat) (k0 : Int) (w : World) (hn : n ≤ 1048576) (hk0 : 0 ≤ k0) (hk1 : k0 ≤ 100000000) (h : Own w lo hi A n zs) :
    Calls Try.prog 32 #[.slice A n c, .int .i64 k0] w (Marked k0 A n lo hi w) := by
  have H := Lib.hid h; clear h
  go_enter Try.func32, Try.ntmps32
  go_wp2
  go_loopw [1, 5] (fun kv i wr => Marking k0 A n lo hi zs w kv i wr) (fun _ i _ => n - (intOf i).toNat)
  case atStart => exact ⟨0, Nat.zero_le _, rfl, by simp, by simpa [marks, Ln.tab] using H.out, Ch.refl _ _ _, fun _ _ _ _ _ _ h => h⟩
  case round =>
    obtain ⟨k, hk, rfl, rfl, hown, hch, hap⟩ := hrel
    have HAP := Lib.hid hap; clear hap
    by_cases hlt : k < n
    · obtain ⟨g, o, rfl, hg, _⟩ := H.out.rd.at_ hlt
      obtain ⟨hf, h1, h2, v0, hv0⟩ := frozen_of hown hlt rfl
      have HN := Lib.hid (hown.store hlt (k0 + k))
      have HC := Lib.hid (hch.set_ (p := ⟨g, o + k, none⟩) h1 h2 (.int .i64 (k0 + k)))
      clear hown hch
      obtain ⟨m, hm⟩ : ∃ m : Int, m = k0 + k := ⟨_, rfl⟩
      have m0 : 0 ≤ m := by omega
      have m1 : m ≤ 101048576 := by omega
      rw [← hm] at HN HC
      rw [← hm]
      have HM := Lib.hid hm; clear hm
      go_wp2
      go_roundw
      case rel =>
        refine ⟨k + 1, by omega, by go_num, by rw [HM.out]; go_num, ?_⟩
        have := HN.out
        rw [HM.out, marks_set k0 zs k (by rw [H.out.len]; exact hlt)] at this
        refine ⟨by rw [HM.out]; exact this, ?_, ?_⟩
        · exact HC.out
        · intro lo' hi' A' n' ys ha ho
          exact (HAP.out lo' hi' A' n' ys ha ho).far ha hlt _
      case measure => simp [intOf]; omega
    · have hkn : k = n := by omega
      have HALL := Lib.hid (And.intro hown (And.intro hch hkn)); clear hown hch
      subst hkn
      go_wp2
      go_ret
      obtain ⟨hown, hch, _⟩ := HALL.out
      have e : zs.drop k = [] := List.drop_eq_nil_of_le (by rw [H.out.len]; exact Nat.le_refl _)
      rw [e, List.append_nil] at hown
      exact ⟨rfl, hown, hch, HAP.out⟩
/-- A list of marks holds them. -/
theorem heldS_any (A : Option Addr) (n c : Nat) (B : Nat) (k0 : Int) (w : World) (hn : n ≤ 1048576) (hk0 : 0 ≤ k0) (hk1 : k0 ≤ 100000000) (h : Rd w B A n (marks k0 n)) :
    Calls Try.prog 33 #[.slice A n c, .int .i64 k0] w fun e w' => e = .returned (.int .i64 (k0 + n)) ∧ Below w.heap.size w w' := by
  have H := Lib.hid h; clear h
  go_enter Try.func33, Try.ntmps33
  go_wp2
  go_loopw [1, 5] (fun kv i wr => ∃ k : Nat, k ≤ n ∧ i = .int .i64 k ∧ kv = .int .i64 (k0 + k) ∧ Below w.heap.size w wr) (fun _ i _ => n - (intOf i).toNat)
  case atStart => exact ⟨0, Nat.zero_le _, rfl, by simp, Below.refl _ _⟩
  case round =>
    obtain ⟨k, hk, rfl, rfl, hb⟩ := hrel
    by_cases hlt : k < n
    · obtain ⟨g, o, rfl, hg, hc⟩ := H.out.at_ hlt
      have hd := (hb.cell (p := ⟨g, o + k, none⟩) (World.block_lt_of_cell? w _ hc)).trans hc
      rw [show (marks k0 n).getD k 0 = k0 + k from Ln.tab_getD _ _ _ hlt] at hd
      obtain ⟨m, hm⟩ : ∃ m : Int, m = k0 + k := ⟨_, rfl⟩
      have m0 : 0 ≤ m := by omega
      have m1 : m ≤ 101048576 := by omega
      rw [← hm] at hd
      rw [← hm]
      have HM := Lib.hid hm
      have HB := Lib.hid hb; clear hm hc hb
      have i1 : (0 : Int) ≤ (k : Int) := by omega
      have i2 : (k : Int) < (n : Int) := by omega
      go_wp2
      go_roundw
      case rel => exact ⟨k + 1, by omega, by go_num, by rw [HM.out]; go_num, HB.out⟩
      case measure => simp [intOf]; omega
    · have hkn : k = n := by omega
      have HB := Lib.hid hb; clear hb
      subst hkn
      go_wp2
      go_ret
      exact ⟨rfl, HB.out⟩
end Go.Proofs.Ytfmplneopmbfoaa.Wds
