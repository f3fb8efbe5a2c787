/-
  Lists of ranges in memory: a slice that reads as a list (RdG), a slice whose row was made between two moments of the call (OwnG); what a walk is told of an argument that is a slice of ranges. Small lemmas; no walk.
-/
import Derived.Test.YtfmplneopmbfoaaDoorLst
import Derived.Test.YtfmplneopmbfoaaDoorRgM
import Derived.Deep.Slices
import Derived.Deep.Fields
import Derived.ChangeSame
namespace Go.Proofs.YtfmplneopmbfoaaDoor.Wds
open Go.RowKit
set_option linter.unusedVariables false

/-- A block that holds just these cells of ranges, none frozen. -/
def BlkG (w : World) (g : Nat) (cs : Array Value) : Prop := w.heap[g]? = some (.cells cs 34 (0, 0))
theorem BlkG.lt {w : World} {g : Nat} {cs : Array Value} (h : BlkG w g cs) : g < w.heap.size := lt_of_block h
theorem BlkG.cell {w : World} {g : Nat} {cs : Array Value} (h : BlkG w g cs) (i : Nat) : w.cell? ⟨g, i, none⟩ = cs[i]? := cell_of_row w g i cs _ (0, 0) h
theorem BlkG.frozen {w : World} {g : Nat} {cs : Array Value} (h : BlkG w g cs) (i : Nat) : w.frozen? ⟨g, i, none⟩ = false := by
  unfold BlkG at h; simp [World.frozen?, h]
theorem BlkG.new (w : World) (cs : Array Value) : BlkG (w.alloc (.cells cs 34)) w.heap.size cs := heap_alloc_new w _
theorem BlkG.drew {w : World} {g : Nat} {cs : Array Value} (h : BlkG w g cs) : BlkG w.drew g cs := h
theorem BlkG.drewN {w : World} {g : Nat} {cs : Array Value} (h : BlkG w g cs) (n : Nat) : BlkG (w.drewN n) g cs := h
theorem BlkG.alloc {w : World} {g : Nat} {cs : Array Value} (h : BlkG w g cs) (o : Obj) : BlkG (w.alloc o) g cs := (Below.heap_alloc w o g h.lt).trans h
theorem BlkG.set_ {w : World} {g : Nat} {cs : Array Value} (h : BlkG w g cs) (i : Nat) (u : Value) : BlkG (w.setCell ⟨g, i, none⟩ u) g (cs.setIfInBounds i u) := by
  unfold BlkG at h ⊢
  simp [World.setCell, Array.getElem?_modify, h]
theorem BlkG.far {w : World} {g : Nat} {cs : Array Value} (h : BlkG w g cs) {p : Addr} (hp : g ≠ p.block) (u : Value) : BlkG (w.setCell p u) g cs := (Below.heap_setCell w p u g hp).trans h
theorem BlkG.below {w w' : World} {g : Nat} {cs : Array Value} (h : BlkG w g cs) {B : Nat} (hb : Below B w w') (hg : g < B) : BlkG w' g cs := (hb.block g hg).trans h
theorem BlkG.keep {w w' : World} {g : Nat} {cs : Array Value} (h : BlkG w g cs) (hb : Below w.heap.size w w') : BlkG w' g cs := h.below hb h.lt
theorem BlkG.ch {w w' : World} {g lo hi : Nat} {cs : Array Value} (h : BlkG w g cs) (hb : Ch lo hi w w') (hg : g < lo ∨ hi ≤ g) : BlkG w' g cs := (hb.block g h.lt hg).trans h

/-- A range's two cells at a place. -/
def At2 (f : Nat → Option Value) (o : Nat) (s : Rg.R) : Prop := f o = some (.int .i64 s.f) ∧ f (o + 1) = some (.int .i64 s.t)
/-- A slice of n ranges that reads as ss; its row lies below block B. -/
def RdG (w : World) (B : Nat) (A : Option Addr) (n : Nat) (ss : List Rg.R) : Prop :=
  ss.length = n ∧ (0 < n → ∃ g o, A = some ⟨g, o, none⟩ ∧ g < B ∧ ∀ j s, ss[j]? = some s → At2 (fun i => w.cell? ⟨g, i, none⟩) (o + j * 2) s)
/-- A slice of n ranges that reads as ss; its row lies in a block from lo on, below hi, that can be written. -/
def OwnG (w : World) (lo hi : Nat) (A : Option Addr) (n : Nat) (ss : List Rg.R) : Prop :=
  ss.length = n ∧ (0 < n → ∃ g o cs, A = some ⟨g, o, none⟩ ∧ lo ≤ g ∧ g < hi ∧ BlkG w g cs ∧ ∀ j s, ss[j]? = some s → At2 (fun i => cs[i]?) (o + j * 2) s)
theorem RdG.nil (w : World) (B : Nat) (A : Option Addr) : RdG w B A 0 [] := ⟨rfl, fun h => absurd h (by omega)⟩
theorem RdG.len {w : World} {B n : Nat} {A : Option Addr} {ss : List Rg.R} (h : RdG w B A n ss) : ss.length = n := h.1
theorem RdG.at_ {w : World} {B n k : Nat} {A : Option Addr} {ss : List Rg.R} (h : RdG w B A n ss) (hk : k < n) : ∃ g o, A = some ⟨g, o, none⟩ ∧ g < B ∧ At2 (fun i => w.cell? ⟨g, i, none⟩) (o + k * 2) (Rg.nth ss k) := by
  obtain ⟨g, o, e, hg, hc⟩ := h.2 (by omega)
  have hl : k < ss.length := by have := h.1; omega
  exact ⟨g, o, e, hg, hc k _ (by rw [Rg.nth, List.getD_eq_getElem?_getD, List.getElem?_eq_getElem hl]; rfl)⟩
theorem At2.cells {w w' : World} {g o : Nat} {s : Rg.R} (h : At2 (fun i => w.cell? ⟨g, i, none⟩) o s) (hk : ∀ i, g < w.heap.size → w'.cell? ⟨g, i, none⟩ = w.cell? ⟨g, i, none⟩) : At2 (fun i => w'.cell? ⟨g, i, none⟩) o s := by
  have hg := World.block_lt_of_cell? w _ h.1
  exact ⟨(hk _ hg).trans h.1, (hk _ hg).trans h.2⟩
theorem RdG.keep {w w' : World} {B n : Nat} {A : Option Addr} {ss : List Rg.R} (h : RdG w B A n ss) (hk : ∀ p : Addr, p.block < B → p.block < w.heap.size → w'.cell? p = w.cell? p) : RdG w' B A n ss :=
  ⟨h.1, fun hn => by
    obtain ⟨g, o, e, hg, hc⟩ := h.2 hn
    exact ⟨g, o, e, hg, fun j z hz => (hc j z hz).cells fun i hs => hk ⟨g, i, none⟩ hg hs⟩⟩
theorem RdG.below {w w' : World} {B n : Nat} {A : Option Addr} {ss : List Rg.R} (h : RdG w B A n ss) (hb : Below w.heap.size w w') : RdG w' B A n ss := h.keep fun _ _ hp => hb.cell hp
theorem RdG.belowB {w w' : World} {B n : Nat} {A : Option Addr} {ss : List Rg.R} (h : RdG w B A n ss) {C : Nat} (hb : Below C w w') (hC : B ≤ C) : RdG w' B A n ss := h.keep fun _ hp _ => hb.cell (by omega)
theorem RdG.ch {w w' : World} {B n lo hi : Nat} {A : Option Addr} {ss : List Rg.R} (h : RdG w B A n ss) (hb : Ch lo hi w w') (hB : B ≤ lo) : RdG w' B A n ss :=
  h.keep fun p hp hs => World.cell?_of_block (hb.block p.block hs (.inl (by omega)))
theorem RdG.more {w : World} {B B' n : Nat} {A : Option Addr} {ss : List Rg.R} (h : RdG w B A n ss) (hB : B ≤ B') : RdG w B' A n ss :=
  ⟨h.1, fun hn => by obtain ⟨g, o, e, hg, hc⟩ := h.2 hn; exact ⟨g, o, e, by omega, hc⟩⟩
theorem OwnG.len {w : World} {lo hi n : Nat} {A : Option Addr} {ss : List Rg.R} (h : OwnG w lo hi A n ss) : ss.length = n := h.1
theorem OwnG.rd {w : World} {lo hi n : Nat} {A : Option Addr} {ss : List Rg.R} (h : OwnG w lo hi A n ss) : RdG w hi A n ss :=
  ⟨h.1, fun hn => by
    obtain ⟨g, o, cs, e, h1, h2, hg, hc⟩ := h.2 hn
    exact ⟨g, o, e, h2, fun j s hs => ⟨(hg.cell _).trans (hc j s hs).1, (hg.cell _).trans (hc j s hs).2⟩⟩⟩
theorem OwnG.nil (w : World) (lo hi : Nat) (A : Option Addr) : OwnG w lo hi A 0 [] := ⟨rfl, fun h => absurd h (by omega)⟩
theorem OwnG.below {w w' : World} {lo hi n : Nat} {A : Option Addr} {ss : List Rg.R} (h : OwnG w lo hi A n ss) (hb : Below w.heap.size w w') : OwnG w' lo hi A n ss :=
  ⟨h.1, fun hn => by
    obtain ⟨g, o, cs, e, h1, h2, hg, hc⟩ := h.2 hn
    exact ⟨g, o, cs, e, h1, h2, hg.keep hb, hc⟩⟩
theorem OwnG.ch {w w' : World} {lo hi n lo' hi' : Nat} {A : Option Addr} {ss : List Rg.R} (h : OwnG w lo hi A n ss) (hb : Ch lo' hi' w w') (hd : hi ≤ lo' ∨ hi' ≤ lo) : OwnG w' lo hi A n ss :=
  ⟨h.1, fun hn => by
    obtain ⟨g, o, cs, e, h1, h2, hg, hc⟩ := h.2 hn
    exact ⟨g, o, cs, e, h1, h2, hg.ch hb (by omega), hc⟩⟩
theorem OwnG.more {w : World} {lo hi lo' hi' n : Nat} {A : Option Addr} {ss : List Rg.R} (h : OwnG w lo hi A n ss) (h1 : lo' ≤ lo) (h2 : hi ≤ hi') : OwnG w lo' hi' A n ss :=
  ⟨h.1, fun hn => by
    obtain ⟨g, o, cs, e, g1, g2, hg, hc⟩ := h.2 hn
    exact ⟨g, o, cs, e, by omega, by omega, hg, hc⟩⟩
/-- The cells of a list of ranges. -/
def c2 (s : Rg.R) : List Value := [.int .i64 s.f, .int .i64 s.t]
def cllG (ss : List Rg.R) : Array Value := (ss.flatMap c2).toArray
theorem cllG_size (ss : List Rg.R) : (cllG ss).size = ss.length * 2 := by
  unfold cllG
  rw [List.size_toArray]
  induction ss with
  | nil => rfl
  | cons s r ih => rw [List.flatMap_cons, List.length_append, ih]; simp [c2]; omega
theorem flat_getG (ss : List Rg.R) (j i : Nat) (hi : i < 2) : (ss.flatMap c2)[j * 2 + i]? = (ss[j]?).bind fun s => (c2 s)[i]? := by
  induction ss generalizing j with
  | nil => simp
  | cons s r ih =>
    rw [List.flatMap_cons]
    have hl : (c2 s).length = 2 := rfl
    cases j with
    | zero => rw [List.getElem?_append_left (by rw [hl]; omega)]; simp
    | succ j =>
      rw [List.getElem?_append_right (by rw [hl]; omega), hl, show (j + 1) * 2 + i - 2 = j * 2 + i by omega, ih]
      simp
theorem cllG_at {ss : List Rg.R} {j : Nat} {s : Rg.R} (h : ss[j]? = some s) : At2 (fun i => (cllG ss)[i]?) (j * 2) s := by
  have key : ∀ i, i < 2 → (cllG ss)[j * 2 + i]? = (c2 s)[i]? := by
    intro i hi
    rw [cllG, List.getElem?_toArray, flat_getG ss j i hi, h]; rfl
  exact ⟨key 0 (by omega), key 1 (by omega)⟩
/-- Out of a block that is known whole. -/
theorem OwnG.of_blk {w : World} {g n : Nat} {ss : List Rg.R} (h : BlkG w g (cllG ss)) (hl : ss.length = n) {lo : Nat} (h1 : lo ≤ g) : OwnG w lo w.heap.size (some ⟨g, 0, none⟩) n ss :=
  ⟨hl, fun hn => ⟨g, 0, _, rfl, h1, h.lt, h, fun j s hs => by rw [Nat.zero_add]; exact cllG_at hs⟩⟩
/-- Two cells are set: one range. -/
theorem cllG_set (ss : List Rg.R) (k : Nat) (hk : k < ss.length) (s : Rg.R) :
    ((cllG ss).setIfInBounds (k * 2) (.int .i64 s.f)).setIfInBounds (k * 2 + 1) (.int .i64 s.t) = cllG (ss.set k s) := by
  have hs := cllG_size ss
  have hs' := cllG_size (ss.set k s)
  rw [List.length_set] at hs'
  refine Array.ext_getElem? fun i => ?_
  by_cases hi : i < ss.length * 2
  · obtain ⟨j, r, hr, rfl⟩ : ∃ j r, r < 2 ∧ i = j * 2 + r := ⟨i / 2, i % 2, by omega, by omega⟩
    have hj : j < ss.length := by omega
    simp only [Array.getElem?_setIfInBounds, Array.size_setIfInBounds, hs]
    have e0 : (cllG ss)[j * 2 + r]? = (c2 ss[j])[r]? := by rw [cllG, List.getElem?_toArray, flat_getG ss j r hr, List.getElem?_eq_getElem hj]; rfl
    have e1 : (cllG (ss.set k s))[j * 2 + r]? = ((ss.set k s)[j]?).bind fun s => (c2 s)[r]? := by rw [cllG, List.getElem?_toArray, flat_getG _ j r hr]
    rw [e0, e1, List.getElem?_set]
    by_cases e : k = j
    · subst e
      rw [if_pos rfl, if_pos hk]
      have : r = 0 ∨ r = 1 := by omega
      rcases this with rfl | rfl <;> simp [c2] <;> omega
    · rw [if_neg e, List.getElem?_eq_getElem hj, if_neg (by omega), if_neg (by omega)]; rfl
  · rw [Array.getElem?_eq_none (by simp only [Array.size_setIfInBounds, hs]; omega), Array.getElem?_eq_none (by rw [hs']; omega)]
theorem BlkG.has {w : World} {g k : Nat} {ss : List Rg.R} (h : BlkG w g (cllG ss)) (hk : k < ss.length) : At2 (fun i => w.cell? ⟨g, i, none⟩) (k * 2) (Rg.nth ss k) := by
  have hs : ss[k]? = some (Rg.nth ss k) := by rw [Rg.nth, List.getD_eq_getElem?_getD, List.getElem?_eq_getElem hk]; rfl
  have := cllG_at hs
  exact ⟨(h.cell _).trans this.1, (h.cell _).trans this.2⟩
theorem BlkG.set2 {w : World} {g k : Nat} {ss : List Rg.R} (h : BlkG w g (cllG ss)) (hk : k < ss.length) (s : Rg.R) :
    BlkG ((w.setCell ⟨g, k * 2, none⟩ (.int .i64 s.f)).setCell ⟨g, k * 2 + 1, none⟩ (.int .i64 s.t)) g (cllG (ss.set k s)) := by
  rw [← cllG_set ss k hk s]
  exact (h.set_ _ _).set_ _ _
/-- What a walk is told of a slice of ranges that came in. -/
theorem list_ofG {α : Type} {P : Nat → α → Prop} : ∀ n : Nat, (∀ i, i < n → ∃ s, P i s) → ∃ l : List α, l.length = n ∧ ∀ i s, l[i]? = some s → P i s := by
  intro n
  induction n with
  | zero => intro _; exact ⟨[], rfl, fun i s h => by simp at h⟩
  | succ n ih =>
    intro h
    obtain ⟨l, hl, hp⟩ := ih fun i hi => h i (by omega)
    obtain ⟨s, hs⟩ := h n (by omega)
    refine ⟨l ++ [s], by simp [hl], fun i t ht => ?_⟩
    rcases Nat.lt_trichotomy i n with hi | hi | hi
    · rw [List.getElem?_append_left (by omega)] at ht; exact hp i t ht
    · subst hi; rw [List.getElem?_append_right (by omega), hl, Nat.sub_self] at ht
      simp at ht; subst ht; exact hs
    · rw [List.getElem?_eq_none (by simp; omega)] at ht; cases ht
end Go.Proofs.YtfmplneopmbfoaaDoor.Wds
