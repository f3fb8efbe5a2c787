/-
  Lists of lists in memory: a slice of slices that reads as rows (RdR), one whose rows were made between two moments of the call (OwnR), a block that is known whole (BlkR). Small lemmas; no walk.
-/
import Derived.Test.YtfmplneopmbfoaaLstW
import Derived.Test.YtfmplneopmbfoaaRwM
namespace Go.Proofs.Ytfmplneopmbfoaa.Wds
open Go.RowKit
set_option linter.unusedVariables false

/-- A block that holds just these slices, none frozen. -/
def BlkR (w : World) (g : Nat) (cs : Array Value) : Prop := w.heap[g]? = some (.cells cs 25 (0, 0))
theorem BlkR.lt {w : World} {g : Nat} {cs : Array Value} (h : BlkR w g cs) : g < w.heap.size := lt_of_block h
theorem BlkR.cell {w : World} {g : Nat} {cs : Array Value} (h : BlkR w g cs) (i : Nat) : w.cell? ⟨g, i, none⟩ = cs[i]? := cell_of_row w g i cs _ (0, 0) h
theorem BlkR.frozen {w : World} {g : Nat} {cs : Array Value} (h : BlkR w g cs) (i : Nat) : w.frozen? ⟨g, i, none⟩ = false := by
  unfold BlkR at h; simp [World.frozen?, h]
theorem BlkR.new (w : World) (cs : Array Value) : BlkR (w.alloc (.cells cs 25)) w.heap.size cs := heap_alloc_new w _
theorem BlkR.set_ {w : World} {g : Nat} {cs : Array Value} (h : BlkR w g cs) (i : Nat) (u : Value) : BlkR (w.setCell ⟨g, i, none⟩ u) g (cs.setIfInBounds i u) := by
  unfold BlkR at h ⊢
  simp [World.setCell, Array.getElem?_modify, h]
theorem BlkR.keep {w w' : World} {g : Nat} {cs : Array Value} (h : BlkR w g cs) (hb : Below w.heap.size w w') : BlkR w' g cs := (hb.block g h.lt).trans h
theorem BlkR.ch {w w' : World} {g lo hi : Nat} {cs : Array Value} (h : BlkR w g cs) (hb : Ch lo hi w w') (hg : g < lo ∨ hi ≤ g) : BlkR w' g cs := (hb.block g h.lt hg).trans h
theorem BlkR.ne {w : World} {g g' : Nat} {cs cs' : Array Value} (h : BlkR w g cs) (h' : Blk w g' cs') : g ≠ g' := by
  intro e
  subst e
  unfold BlkR at h
  unfold Blk at h'
  rw [h] at h'
  injection h' with h'
  injection h' with _ h'
  exact absurd h' (by decide)

/-- A slice of n slices that reads as rows; all lies below block B. -/
def RdR (w : World) (B : Nat) (A : Option Addr) (n : Nat) (zss : List (List Int)) : Prop :=
  zss.length = n ∧ (0 < n → ∃ g o, A = some ⟨g, o, none⟩ ∧ g < B ∧ ∀ j, j < n → ∃ R m c, w.cell? ⟨g, o + j, none⟩ = some (.slice R m c) ∧ m ≤ c ∧ Rd w B R m (zss.getD j []))
theorem RdR.nil (w : World) (B : Nat) (A : Option Addr) : RdR w B A 0 [] := ⟨rfl, fun h => absurd h (by omega)⟩
theorem RdR.len {w : World} {B n : Nat} {A : Option Addr} {zss : List (List Int)} (h : RdR w B A n zss) : zss.length = n := h.1
theorem RdR.at_ {w : World} {B n k : Nat} {A : Option Addr} {zss : List (List Int)} (h : RdR w B A n zss) (hk : k < n) : ∃ g o R m c, A = some ⟨g, o, none⟩ ∧ g < B ∧ w.cell? ⟨g, o + k, none⟩ = some (.slice R m c) ∧ m ≤ c ∧ Rd w B R m (zss.getD k []) := by
  obtain ⟨g, o, e, hg, hc⟩ := h.2 (by omega)
  obtain ⟨R, m, c, h1, h2, h3⟩ := hc k hk
  exact ⟨g, o, R, m, c, e, hg, h1, h2, h3⟩
theorem RdR.keep {w w' : World} {B n : Nat} {A : Option Addr} {zss : List (List Int)} (h : RdR w B A n zss) (hk : ∀ p : Addr, p.block < B → p.block < w.heap.size → w'.cell? p = w.cell? p) : RdR w' B A n zss :=
  ⟨h.1, fun hn => by
    obtain ⟨g, o, e, hg, hc⟩ := h.2 hn
    refine ⟨g, o, e, hg, fun j hj => ?_⟩
    obtain ⟨R, m, c, h1, h2, h3⟩ := hc j hj
    exact ⟨R, m, c, (hk ⟨g, o + j, none⟩ hg (World.block_lt_of_cell? w _ h1)).trans h1, h2, h3.keep hk⟩⟩
theorem RdR.below {w w' : World} {B n : Nat} {A : Option Addr} {zss : List (List Int)} (h : RdR w B A n zss) (hb : Below w.heap.size w w') : RdR w' B A n zss := h.keep fun _ _ hp => hb.cell hp
theorem RdR.belowB {w w' : World} {B n : Nat} {A : Option Addr} {zss : List (List Int)} (h : RdR w B A n zss) {C : Nat} (hb : Below C w w') (hC : B ≤ C) : RdR w' B A n zss := h.keep fun _ hp _ => hb.cell (by omega)
theorem RdR.ch {w w' : World} {B n lo hi : Nat} {A : Option Addr} {zss : List (List Int)} (h : RdR w B A n zss) (hb : Ch lo hi w w') (hB : B ≤ lo) : RdR w' B A n zss :=
  h.keep fun p hp hs => World.cell?_of_block (hb.block p.block hs (.inl (by omega)))
theorem RdR.more {w : World} {B B' n : Nat} {A : Option Addr} {zss : List (List Int)} (h : RdR w B A n zss) (hB : B ≤ B') : RdR w B' A n zss :=
  ⟨h.1, fun hn => by
    obtain ⟨g, o, e, hg, hc⟩ := h.2 hn
    refine ⟨g, o, e, by omega, fun j hj => ?_⟩
    obtain ⟨R, m, c, h1, h2, h3⟩ := hc j hj
    exact ⟨R, m, c, h1, h2, h3.more hB⟩⟩

/-- Rows that are owned and share no cell. -/
structure RowsOf (w : World) (lo hi n : Nat) (zss : List (List Int)) (R : Nat → Option Addr) (M C : Nat → Nat) : Prop where
  own : ∀ j, j < n → Own w lo hi (R j) (M j) (zss.getD j [])
  cap : ∀ j, j < n → M j ≤ C j
  sep : ∀ i j, i < n → j < n → i ≠ j → 0 < M i → 0 < M j → ∀ x y, R i = some x → R j = some y → x.block ≠ y.block
theorem RowsOf.apart {w : World} {lo hi n : Nat} {zss : List (List Int)} {R : Nat → Option Addr} {M C : Nat → Nat} (h : RowsOf w lo hi n zss R M C) (i j : Nat) (hi' : i < n) (hj : j < n) (hne : i ≠ j) (mi : 0 < M i) (mj : 0 < M j) : Apart (R i) (M i) (R j) (M j) :=
  fun g o g' o' e e' => .inl (h.sep i j hi' hj hne mi mj _ _ e e')
/-- A slice of n slices that reads as rows; the rows share no cell, and all lies in blocks from lo on, below hi, that can be written. -/
def OwnR (w : World) (lo hi : Nat) (A : Option Addr) (n : Nat) (zss : List (List Int)) : Prop :=
  zss.length = n ∧ (0 < n → ∃ g o cs R M C, A = some ⟨g, o, none⟩ ∧ lo ≤ g ∧ g < hi ∧ BlkR w g cs ∧ (∀ j, j < n → cs[o + j]? = some (.slice (R j) (M j) (C j))) ∧ RowsOf w lo hi n zss R M C)
theorem OwnR.nil (w : World) (lo hi : Nat) (A : Option Addr) : OwnR w lo hi A 0 [] := ⟨rfl, fun h => absurd h (by omega)⟩
theorem OwnR.len {w : World} {lo hi n : Nat} {A : Option Addr} {zss : List (List Int)} (h : OwnR w lo hi A n zss) : zss.length = n := h.1
theorem OwnR.rd {w : World} {lo hi n : Nat} {A : Option Addr} {zss : List (List Int)} (h : OwnR w lo hi A n zss) : RdR w hi A n zss :=
  ⟨h.1, fun hn => by
    obtain ⟨g, o, cs, R, M, C, e, h1, h2, hg, hc, hr⟩ := h.2 hn
    exact ⟨g, o, e, h2, fun j hj => ⟨R j, M j, C j, (hg.cell _).trans (hc j hj), hr.cap j hj, (hr.own j hj).rd⟩⟩⟩
theorem OwnR.below {w w' : World} {lo hi n : Nat} {A : Option Addr} {zss : List (List Int)} (h : OwnR w lo hi A n zss) (hb : Below w.heap.size w w') : OwnR w' lo hi A n zss :=
  ⟨h.1, fun hn => by
    obtain ⟨g, o, cs, R, M, C, e, h1, h2, hg, hc, hr⟩ := h.2 hn
    exact ⟨g, o, cs, R, M, C, e, h1, h2, hg.keep hb, hc, ⟨fun j hj => (hr.own j hj).below hb, hr.cap, hr.sep⟩⟩⟩
theorem OwnR.ch {w w' : World} {lo hi n lo' hi' : Nat} {A : Option Addr} {zss : List (List Int)} (h : OwnR w lo hi A n zss) (hb : Ch lo' hi' w w') (hd : hi ≤ lo' ∨ hi' ≤ lo) : OwnR w' lo hi A n zss :=
  ⟨h.1, fun hn => by
    obtain ⟨g, o, cs, R, M, C, e, h1, h2, hg, hc, hr⟩ := h.2 hn
    exact ⟨g, o, cs, R, M, C, e, h1, h2, hg.ch hb (by omega), hc, ⟨fun j hj => (hr.own j hj).ch hb hd, hr.cap, hr.sep⟩⟩⟩
theorem OwnR.more {w : World} {lo hi lo' hi' n : Nat} {A : Option Addr} {zss : List (List Int)} (h : OwnR w lo hi A n zss) (h1 : lo' ≤ lo) (h2 : hi ≤ hi') : OwnR w lo' hi' A n zss :=
  ⟨h.1, fun hn => by
    obtain ⟨g, o, cs, R, M, C, e, g1, g2, hg, hc, hr⟩ := h.2 hn
    exact ⟨g, o, cs, R, M, C, e, by omega, by omega, hg, hc, ⟨fun j hj => (hr.own j hj).more h1 h2, hr.cap, hr.sep⟩⟩⟩
theorem apart_own {w : World} {lo hi lo' hi' n n' : Nat} {A A' : Option Addr} {zs ys : List Int} (h : Own w lo hi A n zs) (h' : Own w lo' hi' A' n' ys) (hd : hi ≤ lo' ∨ hi' ≤ lo) (hn : 0 < n) (hn' : 0 < n') : Apart A n A' n' := by
  obtain ⟨g, o, cs, e, g1, g2, _⟩ := h.2 hn
  obtain ⟨g', o', cs', e', g1', g2', _⟩ := h'.2 hn'
  intro q r q' r' eq eq'
  rw [e] at eq; rw [e'] at eq'
  injection eq with eq
  injection eq with eq _
  injection eq' with eq'
  injection eq' with eq' _
  exact .inl (by omega)
theorem sep_own {w : World} {lo hi lo' hi' n n' : Nat} {A A' : Option Addr} {zs ys : List Int} (h : Own w lo hi A n zs) (h' : Own w lo' hi' A' n' ys) (hd : hi ≤ lo' ∨ hi' ≤ lo) (hn : 0 < n) (hn' : 0 < n') : ∀ x y, A = some x → A' = some y → x.block ≠ y.block := by
  obtain ⟨g, o, cs, e, g1, g2, _⟩ := h.2 hn
  obtain ⟨g', o', cs', e', g1', g2', _⟩ := h'.2 hn'
  intro x y ex ey
  rw [e] at ex; rw [e'] at ey
  injection ex with ex
  injection ey with ey
  subst ex; subst ey
  show g ≠ g'
  omega
theorem Own.tight {w : World} {lo hi n : Nat} {A : Option Addr} {zs : List Int} (h : Own w lo hi A n zs) : ∃ l u, Own w l u A n zs ∧ ((n = 0 ∧ l = 0 ∧ u = 0) ∨ (0 < n ∧ lo ≤ l ∧ u = l + 1 ∧ u ≤ hi ∧ ∃ cs, Blk w l cs)) := by
  rcases Nat.eq_zero_or_pos n with h0 | hn
  · exact ⟨0, 0, ⟨h.1, fun hh => absurd hh (by omega)⟩, .inl ⟨h0, rfl, rfl⟩⟩
  · obtain ⟨g, o, cs, e, h1, h2, hg, hc⟩ := h.2 hn
    exact ⟨g, g + 1, ⟨h.1, fun _ => ⟨g, o, cs, e, Nat.le_refl _, by omega, hg, hc⟩⟩, .inr ⟨hn, h1, rfl, by omega, cs, hg⟩⟩
theorem getD_setR (zss : List (List Int)) (k j : Nat) (ys : List Int) (h : k < zss.length) : (zss.set k ys).getD j [] = if k = j then ys else zss.getD j [] := by
  rw [List.getD_eq_getElem?_getD, List.getD_eq_getElem?_getD, List.getElem?_set]
  by_cases e : k = j
  · subst e; simp [h]
  · simp [e]
/-- What a step within a narrow range is within a wide one. -/
theorem Ch.wide {l u lo hi : Nat} {w w' : World} (h : Ch l u w w') (hd : u ≤ l ∨ (lo ≤ l ∧ u ≤ hi)) : Ch lo hi w w' :=
  ⟨h.os, h.tape, h.output, h.size, fun k hk hne => h.block k hk (by omega)⟩
/-- One row of several, for a step that writes into it alone. -/
theorem OwnR.row {w : World} {lo hi n k : Nat} {A : Option Addr} {zss : List (List Int)} (h : OwnR w lo hi A n zss) (hk : k < n) :
    ∃ g o R m c l u, A = some ⟨g, o, none⟩ ∧ w.cell? ⟨g, o + k, none⟩ = some (.slice R m c) ∧ m ≤ c ∧ Own w l u R m (zss.getD k []) ∧ (u ≤ l ∨ (lo ≤ l ∧ u ≤ hi)) ∧
      ∀ w' ys, Own w' l u R m ys → Ch l u w w' → (∀ lo' hi' A' n' zs', Apart R m A' n' → Own w lo' hi' A' n' zs' → Own w' lo' hi' A' n' zs') → OwnR w' lo hi A n (zss.set k ys) := by
  have hlen := h.1
  obtain ⟨g, o, cs, R, M, C, rfl, h1, h2, hg, hc, hr⟩ := h.2 (by omega)
  obtain ⟨l, u, hown, hlu⟩ := (hr.own k hk).tight
  have hgl : g < l ∨ u ≤ g := by
    rcases hlu with ⟨_, rfl, rfl⟩ | ⟨_, _, rfl, _, cs', hb'⟩
    · omega
    · have := hg.ne hb'; omega
  refine ⟨g, o, R k, M k, C k, l, u, rfl, (hg.cell _).trans (hc k hk), hr.cap k hk, hown, by rcases hlu with ⟨_, rfl, rfl⟩ | ⟨_, h3, _, h4, _⟩ <;> omega, ?_⟩
  intro w' ys ho hch hap
  refine ⟨by simp [hlen], fun hn => ⟨g, o, cs, R, M, C, rfl, h1, h2, hg.ch hch hgl, hc, ⟨fun j hj => ?_, hr.cap, hr.sep⟩⟩⟩
  rw [getD_setR zss k j ys (by omega)]
  by_cases e : k = j
  · subst e
    rw [if_pos rfl]
    rcases hlu with ⟨h0, rfl, rfl⟩ | ⟨_, h3, _, h4, _⟩
    · exact ⟨ho.1, fun hh => absurd hh (by omega)⟩
    · exact ho.more h3 h4
  · rw [if_neg e]
    rcases Nat.eq_zero_or_pos (M j) with h0 | hj0
    · exact ⟨(hr.own j hj).1, fun hh => absurd hh (by omega)⟩
    · rcases Nat.eq_zero_or_pos (M k) with h0 | hk0
      · rcases hlu with ⟨_, rfl, rfl⟩ | ⟨_, _⟩
        · exact (hr.own j hj).ch hch (.inr (Nat.zero_le _))
        · omega
      · exact hap _ _ _ _ _ (hr.apart k j hk hj e hk0 hj0) (hr.own j hj)
/-- A row is put into its place: the rows' blocks lie below those of the new one. -/
theorem OwnR.store {w : World} {lo hi lo2 hi2 n k m c : Nat} {g o : Nat} {R' : Option Addr} {zss : List (List Int)} {ys : List Int} (h : OwnR w lo hi (some ⟨g, o, none⟩) n zss) (hk : k < n) (hown : Own w lo2 hi2 R' m ys) (hmc : m ≤ c) (h0 : hi ≤ w.heap.size) (h1 : hi ≤ lo2) (h2 : hi2 ≤ w.heap.size) :
    OwnR (w.setCell ⟨g, o + k, none⟩ (.slice R' m c)) lo w.heap.size (some ⟨g, o, none⟩) n (zss.set k ys) := by
  have hlen := h.1
  obtain ⟨g', o', cs, R, M, C, e, g1, g2, hg, hc, hr⟩ := h.2 (by omega)
  injection e with e
  injection e with e1 e2
  subst e1; subst e2
  have hfar : ∀ {l u : Nat} {A' : Option Addr} {n' : Nat} {zs' : List Int}, Own w l u A' n' zs' → Own (w.setCell ⟨g, o + k, none⟩ (.slice R' m c)) l u A' n' zs' := by
    intro l u A' n' zs' ho
    refine ⟨ho.1, fun hn => ?_⟩
    obtain ⟨g'', o'', cs'', e'', q1, q2, hb'', hc''⟩ := ho.2 hn
    exact ⟨g'', o'', cs'', e'', q1, q2, hb''.far (p := ⟨g, o + k, none⟩) (fun e => hg.ne hb'' e.symm) _, hc''⟩
  have hgs := hg.lt
  have hlt : o + k < cs.size := by
    have := hc k hk
    exact (Array.getElem?_eq_some_iff.1 this).1
  refine ⟨by simp [hlen], fun hn => ⟨g, o, cs.setIfInBounds (o + k) (.slice R' m c), fun j => if j = k then R' else R j, fun j => if j = k then m else M j, fun j => if j = k then c else C j, rfl, g1, hgs, hg.set_ _ _, fun j hj => ?_, ⟨fun j hj => ?_, fun j hj => ?_, fun i j hi hj hne hi0 hj0 => ?_⟩⟩⟩
  · by_cases e : j = k
    · subst e; simp [hlt]
    · simp only [if_neg e]
      rw [Array.getElem?_setIfInBounds_ne (by omega)]
      exact hc j hj
  · rw [getD_setR zss k j ys (by omega)]
    by_cases e : j = k
    · subst e
      simp only [if_true]
      rcases Nat.eq_zero_or_pos m with h0 | hm0
      · exact ⟨hown.1, fun hh => absurd hh (by omega)⟩
      · exact (hfar hown).more (by omega) h2
    · simp only [if_neg e, if_neg (fun e' => e (Eq.symm e') : ¬ k = j)]
      exact (hfar (hr.own j hj)).more (Nat.le_refl _) h0
  · by_cases e : j = k
    · subst e; simp only [if_true]; exact hmc
    · simp only [if_neg e]; exact hr.cap j hj
  · by_cases ei : i = k
    · subst ei
      have ej : ¬ j = i := fun e => hne e.symm
      simp only [if_true] at hi0 ⊢
      rw [if_neg ej] at hj0
      simp only [if_neg ej]
      exact sep_own hown (hr.own j hj) (.inr h1) hi0 hj0
    · rw [if_neg ei] at hi0
      simp only [if_neg ei]
      by_cases ej : j = k
      · subst ej
        simp only [if_true] at hj0 ⊢
        exact sep_own (hr.own i hi) hown (.inl h1) hi0 hj0
      · rw [if_neg ej] at hj0
        simp only [if_neg ej]
        exact hr.sep i j hi hj hne hi0 hj0
end Go.Proofs.Ytfmplneopmbfoaa.Wds
