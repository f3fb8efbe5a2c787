/-
  Plain mathematics of the vectors of chapter 2: what each function gives for lists of numbers (no program, no memory). An answer is a pair of a list and a Bool; where the Bool is false, the list is empty.
-/
import Derived.Test.YtfmplneopmbfoaaMath
namespace Ln
set_option linter.unusedVariables false

def lanes (n : Int) : Bool := n == 2 || n == 4 || n == 8 || n == 16
def vec (b : Int) (zs : List Int) : Bool := lanes zs.length && zs.all fun z => decide (Wd.IsWord b z)
def msk (ms : List Int) : Bool := lanes ms.length && ms.all fun z => z == 0 || z == 1
def both (b : Int) (xs ys : List Int) : Bool := vec b xs && vec b ys && xs.length == ys.length
def masked (b : Int) (ms xs : List Int) : Bool := vec b xs && msk ms && ms.length == xs.length
def no : List Int × Bool := ([], false)
def ans (c : Bool) (zs : List Int) : List Int × Bool := if c then (zs, true) else no

/-- A list by its elements. -/
def tab (f : Nat → Int) (n : Nat) : List Int := (List.range n).map f
def rampL (b fr by' : Int) (n : Nat) : List Int := tab (fun i => Wd.wr b (fr + i * by')) n
def ramp (b n fr by' : Int) : List Int × Bool := ans (lanes n && decide (Wd.IsWord b fr) && decide (Wd.IsWord b by')) (rampL b fr by' n.toNat)
def wise (op b : Int) (xs ys : List Int) : List Int := tab (fun i => Wd.doOp op b (xs.getD i 0) (ys.getD i 0)) xs.length
def isOp (op : Int) : Bool := decide (0 ≤ op ∧ op ≤ 17)
def laneWise (op b : Int) (xs ys : List Int) : List Int × Bool := ans (isOp op && both b xs ys) (wise op b xs ys)
def cmpL (c b : Int) (xs ys : List Int) : List Int := tab (fun i => if Wd.test c b (xs.getD i 0) (ys.getD i 0) then 1 else 0) xs.length
def isCmp (c : Int) : Bool := decide (0 ≤ c ∧ c ≤ 5)
def compare (c b : Int) (xs ys : List Int) : List Int × Bool := ans (isCmp c && both b xs ys) (cmpL c b xs ys)
def sel (ms xs ys : List Int) : List Int := tab (fun i => if ms.getD i 0 = 1 then xs.getD i 0 else ys.getD i 0) ms.length
def select (b : Int) (ms xs ys : List Int) : List Int × Bool := ans (both b xs ys && (msk ms && ms.length == xs.length)) (sel ms xs ys)
def cnt (ms : List Int) : Int := ms.foldl (· + ·) 0
def count (ms : List Int) : Int × Bool := if msk ms then (cnt ms, true) else (0, false)
/-- The lanes that are on, in order. -/
def on : List Int → List Int → List Int
  | m :: ms, x :: xs => if m = 1 then x :: on ms xs else on ms xs
  | _, _ => []
def compressL (ms xs : List Int) : List Int := on ms xs ++ List.replicate (xs.length - (on ms xs).length) 0
def compress (b : Int) (ms xs : List Int) : List Int × Bool := ans (masked b ms xs) (compressL ms xs)
/-- The first lanes to those that are on: the lane at k is the one whose index is the count of those that are on before it. -/
def expand (b : Int) (ms xs : List Int) : List Int × Bool := ans (masked b ms xs) (tab (fun i => if ms.getD i 0 = 1 then xs.getD (cnt (ms.take i)).toNat 0 else 0) xs.length)
def slide (b : Int) (xs ys : List Int) (k : Int) : List Int × Bool := ans (both b xs ys && decide (0 ≤ k ∧ k ≤ xs.length)) (tab (fun i => (xs ++ ys).getD (k.toNat + i) 0) xs.length)
def weave (xs ys : List Int) (i : Nat) : Int := if i % 2 = 0 then xs.getD (i / 2) 0 else ys.getD (i / 2) 0
def wide (b : Int) (s : Bool) (x : Int) : Int := if s then Wd.wr (2 * b) (Wd.sg b x) else x

/-- The first lane that is on; the length, if none is. -/
def pos (ms : List Int) : Nat := ms.findIdx (· == 1)
def first (ms : List Int) : Int × Bool := if msk ms && decide (pos ms < ms.length) then ((pos ms : Int), true) else (0, false)

theorem tab_len (f : Nat → Int) (n : Nat) : (tab f n).length = n := by simp [tab]
theorem tab_getD (f : Nat → Int) (n k : Nat) (h : k < n) : (tab f n).getD k 0 = f k := by
  simp [tab, List.getD_eq_getElem?_getD, h]
theorem tab_succ (f : Nat → Int) (n : Nat) : tab f (n + 1) = tab f n ++ [f n] := by simp [tab, List.range_succ]
theorem tab_congr {f g : Nat → Int} {n : Nat} (h : ∀ i, i < n → f i = g i) : tab f n = tab g n := by
  unfold tab; exact List.map_congr_left fun i hi => h i (List.mem_range.1 hi)
theorem tab_self (zs : List Int) : tab (fun i => zs.getD i 0) zs.length = zs := by
  apply List.ext_getElem
  · simp [tab]
  · intro i h1 h2
    simp [tab, List.getD_eq_getElem?_getD, h2]
/-- A list made of zeros and written lane by lane. -/
def fill (f : Nat → Int) (n k : Nat) : List Int := tab f k ++ List.replicate (n - k) 0
theorem fill_zero (f : Nat → Int) (n : Nat) : fill f n 0 = List.replicate n 0 := by simp [fill, tab]
theorem fill_all (f : Nat → Int) (n : Nat) : fill f n n = tab f n := by simp [fill]
theorem fill_len (f : Nat → Int) (n k : Nat) (h : k ≤ n) : (fill f n k).length = n := by simp [fill, tab]; omega
theorem fill_set (f : Nat → Int) (n k : Nat) (h : k < n) : (fill f n k).set k (f k) = fill f n (k + 1) := by
  unfold fill tab
  rw [List.set_append_right _ _ (by simp)]
  obtain ⟨m, hm⟩ : ∃ m, n - k = m + 1 := ⟨n - k - 1, by omega⟩
  have hm' : n - (k + 1) = m := by omega
  rw [hm, hm', List.replicate_succ, List.range_succ]
  simp
theorem lanes_cases {n : Int} (h : lanes n = true) : n = 2 ∨ n = 4 ∨ n = 8 ∨ n = 16 := by
  simp [lanes] at h; omega
theorem vec_bits {b : Int} {zs : List Int} (h : vec b zs = true) : Wd.IsBits b := by
  simp only [vec, Bool.and_eq_true] at h
  have hl := lanes_cases h.1
  cases zs with
  | nil => simp at hl
  | cons z zs =>
    have := h.2
    simp only [List.all_cons, Bool.and_eq_true, decide_eq_true_eq] at this
    exact this.1.1
theorem vec_len {b : Int} {zs : List Int} (h : vec b zs = true) : (zs.length = 2 ∨ zs.length = 4 ∨ zs.length = 8 ∨ zs.length = 16) := by
  simp only [vec, Bool.and_eq_true] at h
  have hl := lanes_cases h.1
  omega
theorem vec_word {b : Int} {zs : List Int} (h : vec b zs = true) {k : Nat} (hk : k < zs.length) : Wd.IsWord b (zs.getD k 0) := by
  simp only [vec, Bool.and_eq_true, List.all_eq_true, decide_eq_true_eq] at h
  rw [List.getD_eq_getElem?_getD, List.getElem?_eq_getElem hk]
  exact h.2 _ (List.getElem_mem hk)
theorem msk_len {zs : List Int} (h : msk zs = true) : (zs.length = 2 ∨ zs.length = 4 ∨ zs.length = 8 ∨ zs.length = 16) := by
  simp only [msk, Bool.and_eq_true] at h
  have hl := lanes_cases h.1
  omega
theorem msk_bit {zs : List Int} (h : msk zs = true) {k : Nat} (hk : k < zs.length) : zs.getD k 0 = 0 ∨ zs.getD k 0 = 1 := by
  simp only [msk, Bool.and_eq_true, List.all_eq_true, Bool.or_eq_true, beq_iff_eq] at h
  rw [List.getD_eq_getElem?_getD, List.getElem?_eq_getElem hk]
  exact h.2 _ (List.getElem_mem hk)
theorem take_snoc (zs : List Int) (k : Nat) (h : k < zs.length) : zs.take (k + 1) = zs.take k ++ [zs.getD k 0] := by
  rw [List.take_succ_eq_append_getElem h, List.getD_eq_getElem?_getD, List.getElem?_eq_getElem h]; rfl
/-- A test of all elements, a round more. -/
theorem all_snoc (p : Int → Bool) (zs : List Int) (k : Nat) (h : k < zs.length) : (zs.take (k + 1)).all p = ((zs.take k).all p && p (zs.getD k 0)) := by
  rw [take_snoc zs k h]; simp
theorem all_not {p : Int → Bool} {zs : List Int} {k : Nat} (h : k < zs.length) (hp : p (zs.getD k 0) = false) : zs.all p = false := by
  rw [List.getD_eq_getElem?_getD, List.getElem?_eq_getElem h] at hp
  exact Bool.eq_false_iff.2 fun hh => by
    have := (List.all_eq_true.1 hh) _ (List.getElem_mem h)
    simp at hp
    rw [hp] at this; cases this
theorem all_end {p : Int → Bool} {zs : List Int} {k : Nat} (h : zs.length ≤ k) (hp : (zs.take k).all p = true) : zs.all p = true := by
  rwa [List.take_of_length_le h] at hp
/-- The first lane that is on, or -1. -/
def idx (ms : List Int) : Int := if pos ms < ms.length then pos ms else -1
theorem idx_yes {ms : List Int} (h : pos ms < ms.length) : idx ms = pos ms := if_pos h
theorem idx_no {ms : List Int} (h : ¬ pos ms < ms.length) : idx ms = -1 := if_neg h
theorem cnt_nil : cnt [] = 0 := rfl
theorem cnt_snoc (ms : List Int) (k : Nat) (h : k < ms.length) : cnt (ms.take (k + 1)) = cnt (ms.take k) + ms.getD k 0 := by
  rw [take_snoc ms k h]; simp [cnt]
theorem cnt_bd (ms : List Int) (hm : (ms.all fun z => z == 0 || z == 1) = true) : ∀ k, k ≤ ms.length → 0 ≤ cnt (ms.take k) ∧ cnt (ms.take k) ≤ k := by
  intro k
  induction k with
  | zero => intro _; simp [cnt]
  | succ k ih =>
    intro hk
    have := ih (by omega)
    rw [cnt_snoc ms k (by omega)]
    have hb : ms.getD k 0 = 0 ∨ ms.getD k 0 = 1 := by
      simp only [List.all_eq_true, Bool.or_eq_true, beq_iff_eq] at hm
      rw [List.getD_eq_getElem?_getD, List.getElem?_eq_getElem (by omega)]
      exact hm _ (List.getElem_mem (by omega))
    rcases hb with hb | hb <;> rw [hb] <;> omega
theorem pos_le (ms : List Int) : pos ms ≤ ms.length := List.findIdx_le_length
theorem pos_ne {ms : List Int} {k : Nat} (h : k < pos ms) : ms.getD k 0 ≠ 1 := by
  have hl : k < ms.length := Nat.lt_of_lt_of_le h (pos_le ms)
  have := List.not_of_lt_findIdx h
  rw [List.getD_eq_getElem?_getD, List.getElem?_eq_getElem hl]
  simpa using this
theorem pos_at {ms : List Int} (h : pos ms < ms.length) : ms.getD (pos ms) 0 = 1 := by
  have := List.findIdx_getElem (xs := ms) (p := (· == 1)) (w := h)
  rw [List.getD_eq_getElem?_getD, List.getElem?_eq_getElem h]
  exact beq_iff_eq.1 this
theorem pos_lt_of {ms : List Int} {k : Nat} (h : ms.getD k 0 = 1) : pos ms ≤ k := by
  rcases Nat.lt_or_ge k (pos ms) with hlt | hge
  · exact absurd h (pos_ne hlt)
  · exact hge
theorem cnt_zero {ms : List Int} (hm : msk ms = true) : cnt ms = 0 ↔ ¬ pos ms < ms.length := by
  have hall : (ms.all fun z => z == 0 || z == 1) = true := by simp only [msk, Bool.and_eq_true] at hm; exact hm.2
  have hb := cnt_bd ms hall
  have key : ∀ k, k ≤ ms.length → (cnt (ms.take k) = 0 ↔ k ≤ pos ms) := by
    intro k
    induction k with
    | zero => intro _; simp [cnt]
    | succ k ih =>
      intro hk
      have h1 := ih (by omega)
      have h2 := hb k (by omega)
      rw [cnt_snoc ms k (by omega)]
      rcases msk_bit hm (show k < ms.length by omega) with e | e
      · rw [e, Int.add_zero, h1]
        constructor
        · intro h
          rcases Nat.lt_or_ge k (pos ms) with h3 | h3
          · exact h3
          · exfalso
            have h4 : pos ms = k := by omega
            have := pos_at (ms := ms) (by omega)
            rw [h4, e] at this; cases this
        · omega
      · rw [e]
        constructor
        · intro h; omega
        · intro h
          exact absurd e (pos_ne (by omega))
  have := key ms.length (Nat.le_refl _)
  rw [List.take_length] at this
  rw [this]; have := pos_le ms; omega
end Ln
