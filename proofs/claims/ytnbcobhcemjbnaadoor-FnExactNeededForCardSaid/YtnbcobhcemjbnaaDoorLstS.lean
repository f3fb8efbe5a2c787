/-
  Lists of statements in memory: a slice that reads as a list (RdS), a slice whose row was made between two moments of the call (OwnS); what a walk is told of an argument that is a slice of statements. Small lemmas; no walk.
-/
import Derived.Test.YtnbcobhcemjbnaaDoorLst
import Derived.Test.YtnbcobhcemjbnaaDoorScM
import Derived.Deep.Slices
import Derived.Deep.Fields
import Derived.ChangeSame
namespace Go.Proofs.YtnbcobhcemjbnaaDoor.Wds
open Go.RowKit
set_option linter.unusedVariables false

/-- A block that holds just these cells of statements, none frozen. -/
def BlkS (w : World) (g : Nat) (cs : Array Value) : Prop := w.heap[g]? = some (.cells cs 80 (0, 0))
theorem BlkS.lt {w : World} {g : Nat} {cs : Array Value} (h : BlkS w g cs) : g < w.heap.size := lt_of_block h
theorem BlkS.cell {w : World} {g : Nat} {cs : Array Value} (h : BlkS w g cs) (i : Nat) : w.cell? ⟨g, i, none⟩ = cs[i]? := cell_of_row w g i cs _ (0, 0) h
theorem BlkS.frozen {w : World} {g : Nat} {cs : Array Value} (h : BlkS w g cs) (i : Nat) : w.frozen? ⟨g, i, none⟩ = false := by
  unfold BlkS at h; simp [World.frozen?, h]
theorem BlkS.new (w : World) (cs : Array Value) : BlkS (w.alloc (.cells cs 80)) w.heap.size cs := heap_alloc_new w _
theorem BlkS.drew {w : World} {g : Nat} {cs : Array Value} (h : BlkS w g cs) : BlkS w.drew g cs := h
theorem BlkS.drewN {w : World} {g : Nat} {cs : Array Value} (h : BlkS w g cs) (n : Nat) : BlkS (w.drewN n) g cs := h
theorem BlkS.alloc {w : World} {g : Nat} {cs : Array Value} (h : BlkS w g cs) (o : Obj) : BlkS (w.alloc o) g cs := (Below.heap_alloc w o g h.lt).trans h
theorem BlkS.set_ {w : World} {g : Nat} {cs : Array Value} (h : BlkS w g cs) (i : Nat) (u : Value) : BlkS (w.setCell ⟨g, i, none⟩ u) g (cs.setIfInBounds i u) := by
  unfold BlkS at h ⊢
  simp [World.setCell, Array.getElem?_modify, h]
theorem BlkS.far {w : World} {g : Nat} {cs : Array Value} (h : BlkS w g cs) {p : Addr} (hp : g ≠ p.block) (u : Value) : BlkS (w.setCell p u) g cs := (Below.heap_setCell w p u g hp).trans h
theorem BlkS.below {w w' : World} {g : Nat} {cs : Array Value} (h : BlkS w g cs) {B : Nat} (hb : Below B w w') (hg : g < B) : BlkS w' g cs := (hb.block g hg).trans h
theorem BlkS.keep {w w' : World} {g : Nat} {cs : Array Value} (h : BlkS w g cs) (hb : Below w.heap.size w w') : BlkS w' g cs := h.below hb h.lt
theorem BlkS.ch {w w' : World} {g lo hi : Nat} {cs : Array Value} (h : BlkS w g cs) (hb : Ch lo hi w w') (hg : g < lo ∨ hi ≤ g) : BlkS w' g cs := (hb.block g h.lt hg).trans h

/-- A statement's four cells at a place. -/
def At4 (f : Nat → Option Value) (o : Nat) (s : Sc.St) : Prop := f o = some (.int .i64 s.op) ∧ f (o + 1) = some (.int .i64 s.d) ∧ f (o + 2) = some (.int .i64 s.a) ∧ f (o + 3) = some (.int .i64 s.b)
/-- A slice of n statements that reads as ss; its row lies below block B. -/
def RdS (w : World) (B : Nat) (A : Option Addr) (n : Nat) (ss : List Sc.St) : Prop :=
  ss.length = n ∧ (0 < n → ∃ g o, A = some ⟨g, o, none⟩ ∧ g < B ∧ ∀ j s, ss[j]? = some s → At4 (fun i => w.cell? ⟨g, i, none⟩) (o + j * 4) s)
/-- A slice of n statements that reads as ss; its row lies in a block from lo on, below hi, that can be written. -/
def OwnS (w : World) (lo hi : Nat) (A : Option Addr) (n : Nat) (ss : List Sc.St) : Prop :=
  ss.length = n ∧ (0 < n → ∃ g o cs, A = some ⟨g, o, none⟩ ∧ lo ≤ g ∧ g < hi ∧ BlkS w g cs ∧ ∀ j s, ss[j]? = some s → At4 (fun i => cs[i]?) (o + j * 4) s)
theorem RdS.nil (w : World) (B : Nat) (A : Option Addr) : RdS w B A 0 [] := ⟨rfl, fun h => absurd h (by omega)⟩
theorem RdS.len {w : World} {B n : Nat} {A : Option Addr} {ss : List Sc.St} (h : RdS w B A n ss) : ss.length = n := h.1
theorem RdS.at_ {w : World} {B n k : Nat} {A : Option Addr} {ss : List Sc.St} (h : RdS w B A n ss) (hk : k < n) : ∃ g o, A = some ⟨g, o, none⟩ ∧ g < B ∧ At4 (fun i => w.cell? ⟨g, i, none⟩) (o + k * 4) (Sc.nth ss k) := by
  obtain ⟨g, o, e, hg, hc⟩ := h.2 (by omega)
  have hl : k < ss.length := by have := h.1; omega
  exact ⟨g, o, e, hg, hc k _ (by rw [Sc.nth, List.getD_eq_getElem?_getD, List.getElem?_eq_getElem hl]; rfl)⟩
theorem At4.cells {w w' : World} {g o : Nat} {s : Sc.St} (h : At4 (fun i => w.cell? ⟨g, i, none⟩) o s) (hk : ∀ i, g < w.heap.size → w'.cell? ⟨g, i, none⟩ = w.cell? ⟨g, i, none⟩) : At4 (fun i => w'.cell? ⟨g, i, none⟩) o s := by
  have hg := World.block_lt_of_cell? w _ h.1
  exact ⟨(hk _ hg).trans h.1, (hk _ hg).trans h.2.1, (hk _ hg).trans h.2.2.1, (hk _ hg).trans h.2.2.2⟩
theorem RdS.keep {w w' : World} {B n : Nat} {A : Option Addr} {ss : List Sc.St} (h : RdS w B A n ss) (hk : ∀ p : Addr, p.block < B → p.block < w.heap.size → w'.cell? p = w.cell? p) : RdS w' B A n ss :=
  ⟨h.1, fun hn => by
    obtain ⟨g, o, e, hg, hc⟩ := h.2 hn
    exact ⟨g, o, e, hg, fun j z hz => (hc j z hz).cells fun i hs => hk ⟨g, i, none⟩ hg hs⟩⟩
theorem RdS.below {w w' : World} {B n : Nat} {A : Option Addr} {ss : List Sc.St} (h : RdS w B A n ss) (hb : Below w.heap.size w w') : RdS w' B A n ss := h.keep fun _ _ hp => hb.cell hp
theorem RdS.belowB {w w' : World} {B n : Nat} {A : Option Addr} {ss : List Sc.St} (h : RdS w B A n ss) {C : Nat} (hb : Below C w w') (hC : B ≤ C) : RdS w' B A n ss := h.keep fun _ hp _ => hb.cell (by omega)
theorem RdS.ch {w w' : World} {B n lo hi : Nat} {A : Option Addr} {ss : List Sc.St} (h : RdS w B A n ss) (hb : Ch lo hi w w') (hB : B ≤ lo) : RdS w' B A n ss :=
  h.keep fun p hp hs => World.cell?_of_block (hb.block p.block hs (.inl (by omega)))
theorem RdS.more {w : World} {B B' n : Nat} {A : Option Addr} {ss : List Sc.St} (h : RdS w B A n ss) (hB : B ≤ B') : RdS w B' A n ss :=
  ⟨h.1, fun hn => by obtain ⟨g, o, e, hg, hc⟩ := h.2 hn; exact ⟨g, o, e, by omega, hc⟩⟩
theorem OwnS.len {w : World} {lo hi n : Nat} {A : Option Addr} {ss : List Sc.St} (h : OwnS w lo hi A n ss) : ss.length = n := h.1
theorem OwnS.rd {w : World} {lo hi n : Nat} {A : Option Addr} {ss : List Sc.St} (h : OwnS w lo hi A n ss) : RdS w hi A n ss :=
  ⟨h.1, fun hn => by
    obtain ⟨g, o, cs, e, h1, h2, hg, hc⟩ := h.2 hn
    exact ⟨g, o, e, h2, fun j s hs => ⟨(hg.cell _).trans (hc j s hs).1, (hg.cell _).trans (hc j s hs).2.1, (hg.cell _).trans (hc j s hs).2.2.1, (hg.cell _).trans (hc j s hs).2.2.2⟩⟩⟩
theorem OwnS.nil (w : World) (lo hi : Nat) (A : Option Addr) : OwnS w lo hi A 0 [] := ⟨rfl, fun h => absurd h (by omega)⟩
theorem OwnS.below {w w' : World} {lo hi n : Nat} {A : Option Addr} {ss : List Sc.St} (h : OwnS w lo hi A n ss) (hb : Below w.heap.size w w') : OwnS w' lo hi A n ss :=
  ⟨h.1, fun hn => by
    obtain ⟨g, o, cs, e, h1, h2, hg, hc⟩ := h.2 hn
    exact ⟨g, o, cs, e, h1, h2, hg.keep hb, hc⟩⟩
theorem OwnS.ch {w w' : World} {lo hi n lo' hi' : Nat} {A : Option Addr} {ss : List Sc.St} (h : OwnS w lo hi A n ss) (hb : Ch lo' hi' w w') (hd : hi ≤ lo' ∨ hi' ≤ lo) : OwnS w' lo hi A n ss :=
  ⟨h.1, fun hn => by
    obtain ⟨g, o, cs, e, h1, h2, hg, hc⟩ := h.2 hn
    exact ⟨g, o, cs, e, h1, h2, hg.ch hb (by omega), hc⟩⟩
theorem OwnS.more {w : World} {lo hi lo' hi' n : Nat} {A : Option Addr} {ss : List Sc.St} (h : OwnS w lo hi A n ss) (h1 : lo' ≤ lo) (h2 : hi ≤ hi') : OwnS w lo' hi' A n ss :=
  ⟨h.1, fun hn => by
    obtain ⟨g, o, cs, e, g1, g2, hg, hc⟩ := h.2 hn
    exact ⟨g, o, cs, e, by omega, by omega, hg, hc⟩⟩
/-- The cells of a list of statements. -/
def c4 (s : Sc.St) : List Value := [.int .i64 s.op, .int .i64 s.d, .int .i64 s.a, .int .i64 s.b]
def cllS (ss : List Sc.St) : Array Value := (ss.flatMap c4).toArray
theorem cllS_size (ss : List Sc.St) : (cllS ss).size = ss.length * 4 := by
  unfold cllS
  rw [List.size_toArray]
  induction ss with
  | nil => rfl
  | cons s r ih => rw [List.flatMap_cons, List.length_append, ih]; simp [c4]; omega
theorem flat_get (ss : List Sc.St) (j i : Nat) (hi : i < 4) : (ss.flatMap c4)[j * 4 + i]? = (ss[j]?).bind fun s => (c4 s)[i]? := by
  induction ss generalizing j with
  | nil => simp
  | cons s r ih =>
    rw [List.flatMap_cons]
    have hl : (c4 s).length = 4 := rfl
    cases j with
    | zero => rw [List.getElem?_append_left (by rw [hl]; omega)]; simp
    | succ j =>
      rw [List.getElem?_append_right (by rw [hl]; omega), hl, show (j + 1) * 4 + i - 4 = j * 4 + i by omega, ih]
      simp
theorem cllS_at {ss : List Sc.St} {j : Nat} {s : Sc.St} (h : ss[j]? = some s) : At4 (fun i => (cllS ss)[i]?) (j * 4) s := by
  have key : ∀ i, i < 4 → (cllS ss)[j * 4 + i]? = (c4 s)[i]? := by
    intro i hi
    rw [cllS, List.getElem?_toArray, flat_get ss j i hi, h]; rfl
  exact ⟨key 0 (by omega), key 1 (by omega), key 2 (by omega), key 3 (by omega)⟩
/-- Out of a block that is known whole. -/
theorem OwnS.of_blk {w : World} {g n : Nat} {ss : List Sc.St} (h : BlkS w g (cllS ss)) (hl : ss.length = n) {lo : Nat} (h1 : lo ≤ g) : OwnS w lo w.heap.size (some ⟨g, 0, none⟩) n ss :=
  ⟨hl, fun hn => ⟨g, 0, _, rfl, h1, h.lt, h, fun j s hs => by rw [Nat.zero_add]; exact cllS_at hs⟩⟩
/-- Four cells are set: one statement. -/
theorem cllS_set (ss : List Sc.St) (k : Nat) (hk : k < ss.length) (s : Sc.St) :
    ((((cllS ss).setIfInBounds (k * 4) (.int .i64 s.op)).setIfInBounds (k * 4 + 1) (.int .i64 s.d)).setIfInBounds (k * 4 + 2) (.int .i64 s.a)).setIfInBounds (k * 4 + 3) (.int .i64 s.b) = cllS (ss.set k s) := by
  have hs := cllS_size ss
  have hs' := cllS_size (ss.set k s)
  rw [List.length_set] at hs'
  refine Array.ext_getElem? fun i => ?_
  by_cases hi : i < ss.length * 4
  · obtain ⟨j, r, hr, rfl⟩ : ∃ j r, r < 4 ∧ i = j * 4 + r := ⟨i / 4, i % 4, by omega, by omega⟩
    have hj : j < ss.length := by omega
    simp only [Array.getElem?_setIfInBounds, Array.size_setIfInBounds, hs]
    have e0 : (cllS ss)[j * 4 + r]? = (c4 ss[j])[r]? := by rw [cllS, List.getElem?_toArray, flat_get ss j r hr, List.getElem?_eq_getElem hj]; rfl
    have e1 : (cllS (ss.set k s))[j * 4 + r]? = ((ss.set k s)[j]?).bind fun s => (c4 s)[r]? := by rw [cllS, List.getElem?_toArray, flat_get _ j r hr]
    rw [e0, e1, List.getElem?_set]
    by_cases e : k = j
    · subst e
      rw [if_pos rfl, if_pos hk]
      have : r = 0 ∨ r = 1 ∨ r = 2 ∨ r = 3 := by omega
      rcases this with rfl | rfl | rfl | rfl <;> simp [c4] <;> omega
    · rw [if_neg e, List.getElem?_eq_getElem hj, if_neg (by omega), if_neg (by omega), if_neg (by omega), if_neg (by omega)]; rfl
  · rw [Array.getElem?_eq_none (by simp only [Array.size_setIfInBounds, hs]; omega), Array.getElem?_eq_none (by rw [hs']; omega)]
theorem BlkS.has {w : World} {g k : Nat} {ss : List Sc.St} (h : BlkS w g (cllS ss)) (hk : k < ss.length) : At4 (fun i => w.cell? ⟨g, i, none⟩) (k * 4) (Sc.nth ss k) := by
  have hs : ss[k]? = some (Sc.nth ss k) := by rw [Sc.nth, List.getD_eq_getElem?_getD, List.getElem?_eq_getElem hk]; rfl
  have := cllS_at hs
  exact ⟨(h.cell _).trans this.1, (h.cell _).trans this.2.1, (h.cell _).trans this.2.2.1, (h.cell _).trans this.2.2.2⟩
theorem BlkS.set4 {w : World} {g k : Nat} {ss : List Sc.St} (h : BlkS w g (cllS ss)) (hk : k < ss.length) (s : Sc.St) :
    BlkS ((((w.setCell ⟨g, k * 4, none⟩ (.int .i64 s.op)).setCell ⟨g, k * 4 + 1, none⟩ (.int .i64 s.d)).setCell ⟨g, k * 4 + 2, none⟩ (.int .i64 s.a)).setCell ⟨g, k * 4 + 3, none⟩ (.int .i64 s.b)) g (cllS (ss.set k s)) := by
  rw [← cllS_set ss k hk s]
  exact (((h.set_ _ _).set_ _ _).set_ _ _).set_ _ _
/-- What a walk is told of a slice of statements that came in. -/
theorem list_of {α : Type} {P : Nat → α → Prop} : ∀ n : Nat, (∀ i, i < n → ∃ s, P i s) → ∃ l : List α, l.length = n ∧ ∀ i s, l[i]? = some s → P i s := by
  intro n
  induction n with
  | zero => intro _; exact ⟨[], rfl, fun i s h => by simp at h⟩
  | succ n ih =>
    intro h
    obtain ⟨l, hl, hp⟩ := ih fun i hi => h i (by omega)
    obtain ⟨s, hs⟩ := h n (by omega)
    refine ⟨l ++ [s], by simp [hl], fun i t ht => ?_⟩
    rcases Nat.lt_trichotomy i n with hi | hi | hi
    · rw [List.getElem?_append_left (by omega)] at ht; exact hp i t ht
    · subst hi; rw [List.getElem?_append_right (by omega), hl, Nat.sub_self] at ht
      simp at ht; subst ht; exact hs
    · rw [List.getElem?_eq_none (by simp; omega)] at ht; cases ht
end Go.Proofs.YtnbcobhcemjbnaaDoor.Wds
