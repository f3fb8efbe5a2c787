/-
  Lists of tasks in memory: a slice of tasks that reads as a list (RdT), one whose rows were made between two moments of the call (OwnT), a block that is known whole (BlkT). Small lemmas; no walk.
-/
import Derived.Test.YtfmplneopmbfoaaLstR
import Derived.Test.YtfmplneopmbfoaaTkM
namespace Go.Proofs.Ytfmplneopmbfoaa.Wds
open Go.RowKit
set_option linter.unusedVariables false

/-- A block that holds just these cells of tasks, none frozen. -/
def BlkT (w : World) (g : Nat) (cs : Array Value) : Prop := w.heap[g]? = some (.cells cs 65 (0, 0))
theorem BlkT.lt {w : World} {g : Nat} {cs : Array Value} (h : BlkT w g cs) : g < w.heap.size := lt_of_block h
theorem BlkT.cell {w : World} {g : Nat} {cs : Array Value} (h : BlkT w g cs) (i : Nat) : w.cell? ⟨g, i, none⟩ = cs[i]? := cell_of_row w g i cs _ (0, 0) h
theorem BlkT.frozen {w : World} {g : Nat} {cs : Array Value} (h : BlkT w g cs) (i : Nat) : w.frozen? ⟨g, i, none⟩ = false := by
  unfold BlkT at h; simp [World.frozen?, h]
theorem BlkT.new (w : World) (cs : Array Value) : BlkT (w.alloc (.cells cs 65)) w.heap.size cs := heap_alloc_new w _
theorem BlkT.set_ {w : World} {g : Nat} {cs : Array Value} (h : BlkT w g cs) (i : Nat) (u : Value) : BlkT (w.setCell ⟨g, i, none⟩ u) g (cs.setIfInBounds i u) := by
  unfold BlkT at h ⊢
  simp [World.setCell, Array.getElem?_modify, h]
theorem BlkT.keep {w w' : World} {g : Nat} {cs : Array Value} (h : BlkT w g cs) (hb : Below w.heap.size w w') : BlkT w' g cs := (hb.block g h.lt).trans h
theorem BlkT.ch {w w' : World} {g lo hi : Nat} {cs : Array Value} (h : BlkT w g cs) (hb : Ch lo hi w w') (hg : g < lo ∨ hi ≤ g) : BlkT w' g cs := (hb.block g h.lt hg).trans h
theorem BlkT.ne {w : World} {g g' : Nat} {cs cs' : Array Value} (h : BlkT w g cs) (h' : Blk w g' cs') : g ≠ g' := by
  intro e
  subst e
  unfold BlkT at h
  unfold Blk at h'
  rw [h] at h'
  injection h' with h'
  injection h' with _ h'
  exact absurd h' (by decide)
/-- A task's three cells at a place. -/
def At3 (f : Nat → Option Value) (o : Nat) (p l : Int) (R : Option Addr) (m c : Nat) : Prop := f o = some (.int .i64 p) ∧ f (o + 1) = some (.int .i64 l) ∧ f (o + 2) = some (.slice R m c)
/-- A slice of n tasks that reads as ts; all lies below block B. -/
def RdT (w : World) (B : Nat) (A : Option Addr) (n : Nat) (ts : List Tk.T) : Prop :=
  ts.length = n ∧ (0 < n → ∃ g o, A = some ⟨g, o, none⟩ ∧ g < B ∧ ∀ j, j < n → ∃ R m c, At3 (fun i => w.cell? ⟨g, i, none⟩) (o + j * 3) (Tk.nth ts j).p (Tk.nth ts j).l R m c ∧ m ≤ c ∧ Rd w B R m (Tk.nth ts j).ns)
theorem RdT.nil (w : World) (B : Nat) (A : Option Addr) : RdT w B A 0 [] := ⟨rfl, fun h => absurd h (by omega)⟩
theorem RdT.len {w : World} {B n : Nat} {A : Option Addr} {ts : List Tk.T} (h : RdT w B A n ts) : ts.length = n := h.1
theorem RdT.at_ {w : World} {B n k : Nat} {A : Option Addr} {ts : List Tk.T} (h : RdT w B A n ts) (hk : k < n) :
    ∃ g o R m c, A = some ⟨g, o, none⟩ ∧ g < B ∧ At3 (fun i => w.cell? ⟨g, i, none⟩) (o + k * 3) (Tk.nth ts k).p (Tk.nth ts k).l R m c ∧ m ≤ c ∧ Rd w B R m (Tk.nth ts k).ns := by
  obtain ⟨g, o, e, hg, hc⟩ := h.2 (by omega)
  obtain ⟨R, m, c, h1, h2, h3⟩ := hc k hk
  exact ⟨g, o, R, m, c, e, hg, h1, h2, h3⟩
theorem At3.cells {w w' : World} {g o : Nat} {p l : Int} {R : Option Addr} {m c : Nat} (h : At3 (fun i => w.cell? ⟨g, i, none⟩) o p l R m c) (hk : ∀ i, g < w.heap.size → w'.cell? ⟨g, i, none⟩ = w.cell? ⟨g, i, none⟩) : At3 (fun i => w'.cell? ⟨g, i, none⟩) o p l R m c := by
  have hg := World.block_lt_of_cell? w _ h.1
  exact ⟨(hk _ hg).trans h.1, (hk _ hg).trans h.2.1, (hk _ hg).trans h.2.2⟩
theorem RdT.keep {w w' : World} {B n : Nat} {A : Option Addr} {ts : List Tk.T} (h : RdT w B A n ts) (hk : ∀ p : Addr, p.block < B → p.block < w.heap.size → w'.cell? p = w.cell? p) : RdT w' B A n ts :=
  ⟨h.1, fun hn => by
    obtain ⟨g, o, e, hg, hc⟩ := h.2 hn
    refine ⟨g, o, e, hg, fun j hj => ?_⟩
    obtain ⟨R, m, c, h1, h2, h3⟩ := hc j hj
    exact ⟨R, m, c, h1.cells fun i hs => hk ⟨g, i, none⟩ hg hs, h2, h3.keep hk⟩⟩
theorem RdT.below {w w' : World} {B n : Nat} {A : Option Addr} {ts : List Tk.T} (h : RdT w B A n ts) (hb : Below w.heap.size w w') : RdT w' B A n ts := h.keep fun _ _ hp => hb.cell hp
theorem RdT.belowB {w w' : World} {B n : Nat} {A : Option Addr} {ts : List Tk.T} (h : RdT w B A n ts) {C : Nat} (hb : Below C w w') (hC : B ≤ C) : RdT w' B A n ts := h.keep fun _ hp _ => hb.cell (by omega)
theorem RdT.ch {w w' : World} {B n lo hi : Nat} {A : Option Addr} {ts : List Tk.T} (h : RdT w B A n ts) (hb : Ch lo hi w w') (hB : B ≤ lo) : RdT w' B A n ts :=
  h.keep fun p hp hs => World.cell?_of_block (hb.block p.block hs (.inl (by omega)))
theorem RdT.more {w : World} {B B' n : Nat} {A : Option Addr} {ts : List Tk.T} (h : RdT w B A n ts) (hB : B ≤ B') : RdT w B' A n ts :=
  ⟨h.1, fun hn => by
    obtain ⟨g, o, e, hg, hc⟩ := h.2 hn
    refine ⟨g, o, e, by omega, fun j hj => ?_⟩
    obtain ⟨R, m, c, h1, h2, h3⟩ := hc j hj
    exact ⟨R, m, c, h1, h2, h3.more hB⟩⟩
/-- A slice of n tasks that reads as ts; the rows share no cell, and all lies in blocks from lo on, below hi, that can be written. -/
def OwnT (w : World) (lo hi : Nat) (A : Option Addr) (n : Nat) (ts : List Tk.T) : Prop :=
  ts.length = n ∧ (0 < n → ∃ g o cs R M C, A = some ⟨g, o, none⟩ ∧ lo ≤ g ∧ g < hi ∧ BlkT w g cs ∧ (∀ j, j < n → At3 (fun i => cs[i]?) (o + j * 3) (Tk.nth ts j).p (Tk.nth ts j).l (R j) (M j) (C j)) ∧ RowsOf w lo hi n (Tk.nss ts) R M C)
theorem OwnT.nil (w : World) (lo hi : Nat) (A : Option Addr) : OwnT w lo hi A 0 [] := ⟨rfl, fun h => absurd h (by omega)⟩
theorem OwnT.len {w : World} {lo hi n : Nat} {A : Option Addr} {ts : List Tk.T} (h : OwnT w lo hi A n ts) : ts.length = n := h.1
theorem OwnT.rd {w : World} {lo hi n : Nat} {A : Option Addr} {ts : List Tk.T} (h : OwnT w lo hi A n ts) : RdT w hi A n ts :=
  ⟨h.1, fun hn => by
    obtain ⟨g, o, cs, R, M, C, e, h1, h2, hg, hc, hr⟩ := h.2 hn
    refine ⟨g, o, e, h2, fun j hj => ⟨R j, M j, C j, ⟨(hg.cell _).trans (hc j hj).1, (hg.cell _).trans (hc j hj).2.1, (hg.cell _).trans (hc j hj).2.2⟩, hr.cap j hj, ?_⟩⟩
    have := (hr.own j hj).rd
    rw [Tk.nss_getD] at this
    exact this⟩
theorem OwnT.below {w w' : World} {lo hi n : Nat} {A : Option Addr} {ts : List Tk.T} (h : OwnT w lo hi A n ts) (hb : Below w.heap.size w w') : OwnT w' lo hi A n ts :=
  ⟨h.1, fun hn => by
    obtain ⟨g, o, cs, R, M, C, e, h1, h2, hg, hc, hr⟩ := h.2 hn
    exact ⟨g, o, cs, R, M, C, e, h1, h2, hg.keep hb, hc, ⟨fun j hj => (hr.own j hj).below hb, hr.cap, hr.sep⟩⟩⟩
theorem OwnT.ch {w w' : World} {lo hi n lo' hi' : Nat} {A : Option Addr} {ts : List Tk.T} (h : OwnT w lo hi A n ts) (hb : Ch lo' hi' w w') (hd : hi ≤ lo' ∨ hi' ≤ lo) : OwnT w' lo hi A n ts :=
  ⟨h.1, fun hn => by
    obtain ⟨g, o, cs, R, M, C, e, h1, h2, hg, hc, hr⟩ := h.2 hn
    exact ⟨g, o, cs, R, M, C, e, h1, h2, hg.ch hb (by omega), hc, ⟨fun j hj => (hr.own j hj).ch hb hd, hr.cap, hr.sep⟩⟩⟩
theorem OwnT.more {w : World} {lo hi lo' hi' n : Nat} {A : Option Addr} {ts : List Tk.T} (h : OwnT w lo hi A n ts) (h1 : lo' ≤ lo) (h2 : hi ≤ hi') : OwnT w lo' hi' A n ts :=
  ⟨h.1, fun hn => by
    obtain ⟨g, o, cs, R, M, C, e, g1, g2, hg, hc, hr⟩ := h.2 hn
    exact ⟨g, o, cs, R, M, C, e, by omega, by omega, hg, hc, ⟨fun j hj => (hr.own j hj).more h1 h2, hr.cap, hr.sep⟩⟩⟩
/-- The places of a task, known to be there and not frozen. -/
theorem OwnT.place {w : World} {lo hi n k g o : Nat} {ts : List Tk.T} (h : OwnT w lo hi (some ⟨g, o, none⟩) n ts) (hk : k < n) :
    (∃ p l R m c, At3 (fun i => w.cell? ⟨g, i, none⟩) (o + k * 3) p l R m c) ∧ (∀ i, w.frozen? ⟨g, i, none⟩ = false) ∧ lo ≤ g ∧ g < hi := by
  obtain ⟨g', o', cs, R, M, C, e, h1, h2, hg, hc, _⟩ := h.2 (by omega)
  injection e with e
  injection e with e1 e2
  subst e1; subst e2
  exact ⟨⟨_, _, _, _, _, (hg.cell _).trans (hc k hk).1, (hg.cell _).trans (hc k hk).2.1, (hg.cell _).trans (hc k hk).2.2⟩, fun i => hg.frozen i, h1, h2⟩
/-- Three cells are set: one task; its row's block lies above those of the others. -/
theorem OwnT.store {w : World} {lo hi lo2 hi2 n k m c : Nat} {g o : Nat} {R' : Option Addr} {ts : List Tk.T} {s : Tk.T} (h : OwnT w lo hi (some ⟨g, o, none⟩) n ts) (hk : k < n) (hown : Own w lo2 hi2 R' m s.ns) (hmc : m ≤ c) (h0 : hi ≤ w.heap.size) (h1 : hi ≤ lo2) (h2 : hi2 ≤ w.heap.size) :
    OwnT (((w.setCell ⟨g, o + k * 3, none⟩ (.int .i64 s.p)).setCell ⟨g, o + k * 3 + 1, none⟩ (.int .i64 s.l)).setCell ⟨g, o + k * 3 + 2, none⟩ (.slice R' m c)) lo w.heap.size (some ⟨g, o, none⟩) n (ts.set k s) := by
  have hlen := h.1
  obtain ⟨g', o', cs, R, M, C, e, g1, g2, hg, hc, hr⟩ := h.2 (by omega)
  injection e with e
  injection e with e1 e2
  subst e1; subst e2
  have hfar : ∀ {l u : Nat} {A' : Option Addr} {n' : Nat} {zs' : List Int}, Own w l u A' n' zs' → Own (((w.setCell ⟨g, o + k * 3, none⟩ (.int .i64 s.p)).setCell ⟨g, o + k * 3 + 1, none⟩ (.int .i64 s.l)).setCell ⟨g, o + k * 3 + 2, none⟩ (.slice R' m c)) l u A' n' zs' := by
    intro l u A' n' zs' ho
    refine ⟨ho.1, fun hn => ?_⟩
    obtain ⟨g'', o'', cs'', e'', q1, q2, hb'', hc''⟩ := ho.2 hn
    have hne : g'' ≠ g := fun e => hg.ne hb'' e.symm
    exact ⟨g'', o'', cs'', e'', q1, q2, ((hb''.far (p := ⟨g, o + k * 3, none⟩) hne _).far (p := ⟨g, o + k * 3 + 1, none⟩) hne _).far (p := ⟨g, o + k * 3 + 2, none⟩) hne _, hc''⟩
  have hgs := hg.lt
  have hlt : o + k * 3 + 2 < cs.size := (Array.getElem?_eq_some_iff.1 (hc k hk).2.2).1
  refine ⟨by simp [hlen], fun hn => ⟨g, o, _, fun j => if j = k then R' else R j, fun j => if j = k then m else M j, fun j => if j = k then c else C j, rfl, g1, hgs, ((hg.set_ (o + k * 3) (.int .i64 s.p)).set_ (o + k * 3 + 1) (.int .i64 s.l)).set_ (o + k * 3 + 2) (.slice R' m c), fun j hj => ?_, ⟨fun j hj => ?_, fun j hj => ?_, fun i j hi hj hne hi0 hj0 => ?_⟩⟩⟩
  · by_cases e : j = k
    · subst e
      rw [Tk.nth_set _ _ _ _ (by omega), if_pos rfl]
      refine ⟨?_, ?_, ?_⟩
      all_goals
        simp only [Array.getElem?_setIfInBounds, Array.size_setIfInBounds, if_true]
      · rw [if_neg (by omega), if_neg (by omega), if_pos (by omega)]
      · rw [if_neg (by omega), if_pos (by omega)]
      · rw [if_pos (by omega)]
    · rw [Tk.nth_set _ _ _ _ (by omega), if_neg (fun h => e h.symm)]
      have h5 := hc j hj
      simp only [if_neg e]
      refine ⟨?_, ?_, ?_⟩
      all_goals
        simp only [Array.getElem?_setIfInBounds, Array.size_setIfInBounds]
        rw [if_neg (by omega), if_neg (by omega), if_neg (by omega)]
      · exact h5.1
      · exact h5.2.1
      · exact h5.2.2
  · rw [Tk.nss_set, getD_setR _ k j s.ns (by rw [Tk.nss_len]; omega)]
    by_cases e : j = k
    · subst e
      simp only [if_true]
      rcases Nat.eq_zero_or_pos m with h0 | hm0
      · exact ⟨hown.1, fun hh => absurd hh (by omega)⟩
      · exact (hfar hown).more (by omega) h2
    · simp only [if_neg e, if_neg (fun e' => e (Eq.symm e') : ¬ k = j)]
      exact (hfar (hr.own j hj)).more (Nat.le_refl _) h0
  · by_cases e : j = k
    · subst e; simp only [if_true]; exact hmc
    · simp only [if_neg e]; exact hr.cap j hj
  · by_cases ei : i = k
    · subst ei
      have ej : ¬ j = i := fun e => hne e.symm
      simp only [if_true] at hi0 ⊢
      rw [if_neg ej] at hj0
      simp only [if_neg ej]
      exact sep_own hown (hr.own j hj) (.inr h1) hi0 hj0
    · rw [if_neg ei] at hi0
      simp only [if_neg ei]
      by_cases ej : j = k
      · subst ej
        simp only [if_true] at hj0 ⊢
        exact sep_own (hr.own i hi) hown (.inl h1) hi0 hj0
      · rw [if_neg ej] at hj0
        simp only [if_neg ej]
        exact hr.sep i j hi hj hne hi0 hj0
/-- The cells of n empty tasks. -/
def zeroT (n : Nat) : Array Value := (Array.range (n * 3)).map fun j => if j % 3 = 2 then Value.slice none 0 0 else Value.int .i64 0
theorem zeroT_at {n j : Nat} (h : j < n) : At3 (fun i => (zeroT n)[i]?) (0 + j * 3) 0 0 none 0 0 := by
  have key : ∀ i, i < n * 3 → (zeroT n)[i]? = some (if i % 3 = 2 then Value.slice none 0 0 else Value.int .i64 0) := by
    intro i hi
    simp [zeroT, hi]
  refine ⟨?_, ?_, ?_⟩
  · show (zeroT n)[0 + j * 3]? = _
    rw [key _ (by omega), if_neg (by omega)]
  · show (zeroT n)[0 + j * 3 + 1]? = _
    rw [key _ (by omega), if_neg (by omega)]
  · show (zeroT n)[0 + j * 3 + 2]? = _
    rw [key _ (by omega), if_pos (by omega)]
theorem nth_zeros {n j : Nat} : Tk.nth (List.replicate n Tk.zero) j = Tk.zero := by
  rw [Tk.nth, List.getD_eq_getElem?_getD, List.getElem?_replicate]
  split <;> rfl
theorem OwnT.new (w : World) (n : Nat) : OwnT (w.alloc (.cells (zeroT n) 65)) w.heap.size (w.heap.size + 1) (some ⟨w.heap.size, 0, none⟩) n (List.replicate n Tk.zero) := by
  refine ⟨by simp, fun hn => ⟨w.heap.size, 0, _, fun _ => none, fun _ => 0, fun _ => 0, rfl, Nat.le_refl _, by omega, BlkT.new _ _, fun j hj => ?_, ⟨fun j hj => ?_, fun _ _ => Nat.le_refl _, fun _ _ _ _ _ h _ => by omega⟩⟩⟩
  · rw [nth_zeros]; exact zeroT_at hj
  · rw [Tk.nss_getD, nth_zeros]
    exact Own.nil _ _ _ _
end Go.Proofs.Ytfmplneopmbfoaa.Wds
