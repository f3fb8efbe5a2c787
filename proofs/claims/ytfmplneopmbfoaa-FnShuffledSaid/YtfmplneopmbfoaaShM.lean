/-
  Plain mathematics of the shuffles of chapter 4: which lists are shuffles, what they do, which of them have an inverse and which it is, the named ones. No program, no memory.
-/
import Derived.Test.YtfmplneopmbfoaaLan
namespace Ln
set_option linter.unusedVariables false

/-- All numbers of a list are indices below m. -/
def idxs (m : Nat) (zs : List Int) : Bool := zs.all fun z => decide (0 ≤ z ∧ z < m)
def shuf (zs : List Int) : Bool := lanes zs.length && idxs zs.length zs
def pickL (a is : List Int) : List Int := tab (fun i => a.getD (is.getD i 0).toNat 0) is.length
def shuffle (b : Int) (s a : List Int) : List Int × Bool := ans (shuf s && vec b a && s.length == a.length) (pickL a s)
def thenS (f s : List Int) : List Int × Bool := ans (shuf f && shuf s && f.length == s.length) (pickL f s)
/-- Each number below m is in the list. -/
def allIn (m : Nat) (zs : List Int) : Bool := (List.range m).all fun i => zs.contains (i : Int)
def ord (zs : List Int) : Bool := shuf zs && allIn zs.length zs
/-- The first place of a number; the length, if it is not there. -/
def place (zs : List Int) (v : Int) : Nat := zs.findIdx (· == v)
def invL (zs : List Int) : List Int := tab (fun i => (place zs i : Int)) zs.length
def inverse (zs : List Int) : List Int × Bool := ans (ord zs) (invL zs)
def pick (b : Int) (is xs ys : List Int) : List Int × Bool := ans (both b xs ys && is.length == xs.length && idxs (2 * xs.length) is) (pickL (xs ++ ys) is)

theorem idxs_at {m : Nat} {zs : List Int} (h : idxs m zs = true) {k : Nat} (hk : k < zs.length) : 0 ≤ zs.getD k 0 ∧ zs.getD k 0 < m := by
  simp only [idxs, List.all_eq_true, decide_eq_true_eq] at h
  rw [List.getD_eq_getElem?_getD, List.getElem?_eq_getElem hk]
  exact h _ (List.getElem_mem hk)
theorem shuf_len {zs : List Int} (h : shuf zs = true) : zs.length = 2 ∨ zs.length = 4 ∨ zs.length = 8 ∨ zs.length = 16 := by
  simp only [shuf, Bool.and_eq_true] at h
  have := lanes_cases h.1
  omega
theorem shuf_idxs {zs : List Int} (h : shuf zs = true) : idxs zs.length zs = true := by
  simp only [shuf, Bool.and_eq_true] at h; exact h.2
theorem pickL_len (a is : List Int) : (pickL a is).length = is.length := tab_len _ _
theorem place_le (zs : List Int) (v : Int) : place zs v ≤ zs.length := List.findIdx_le_length
theorem place_mem {zs : List Int} {v : Int} (h : zs.contains v = true) : place zs v < zs.length := by
  have hm : v ∈ zs := by simpa using h
  exact List.findIdx_lt_length_of_exists ⟨v, hm, by simp⟩
theorem place_not {zs : List Int} {v : Int} (h : zs.contains v = false) : place zs v = zs.length := by
  unfold place
  rw [List.findIdx_eq_length]
  intro x hx
  have hm : ¬ v ∈ zs := by simpa using h
  rw [beq_eq_false_iff_ne]
  intro e
  exact hm (by rw [← e]; exact hx)
theorem place_at {zs : List Int} {v : Int} (h : place zs v < zs.length) : zs.getD (place zs v) 0 = v := by
  have := List.findIdx_getElem (xs := zs) (p := (· == v)) (w := h)
  rw [List.getD_eq_getElem?_getD, List.getElem?_eq_getElem h]
  exact beq_iff_eq.1 this
theorem place_ne {zs : List Int} {v : Int} {k : Nat} (h : k < place zs v) : zs.getD k 0 ≠ v := by
  have hl : k < zs.length := Nat.lt_of_lt_of_le h (place_le zs v)
  have := List.not_of_lt_findIdx h
  rw [List.getD_eq_getElem?_getD, List.getElem?_eq_getElem hl]
  simpa using this
theorem place_of {zs : List Int} {v : Int} {k : Nat} (h : zs.getD k 0 = v) : place zs v ≤ k := by
  rcases Nat.lt_or_ge k (place zs v) with hlt | hge
  · exact absurd h (place_ne hlt)
  · exact hge
theorem len_of_sub {l : List Int} (hl : l.Nodup) : ∀ {m : List Int}, (∀ x, x ∈ l → x ∈ m) → l.length ≤ m.length := by
  induction l with
  | nil => intro m _; exact Nat.zero_le _
  | cons x l ih =>
    intro m hs
    have hx := hs x (by simp)
    obtain ⟨hn, hl'⟩ := List.nodup_cons.1 hl
    have h1 : l.length ≤ (m.erase x).length := ih hl' fun y hy => by
      have hne : y ≠ x := fun e => hn (by rw [← e]; exact hy)
      exact (List.mem_erase_of_ne hne).2 (hs y (by simp [hy]))
    have h2 := List.length_erase_of_mem hx
    have h3 := List.length_pos_of_mem hx
    simp only [List.length_cons]
    omega
theorem range_nodup (n : Nat) : ((List.range n).map (fun i : Nat => (i : Int))).Nodup := by
  refine List.Pairwise.map _ (fun a b hab => ?_) (List.nodup_range (n := n))
  intro e
  exact hab (by omega)
/-- Where each index is, no number is there twice. -/
theorem once {zs : List Int} (h : allIn zs.length zs = true) {i j : Nat} (hij : i < j) (hj : j < zs.length) : zs.getD i 0 ≠ zs.getD j 0 := by
  intro e
  have hi : i < zs.length := by omega
  rw [List.getD_eq_getElem?_getD, List.getD_eq_getElem?_getD, List.getElem?_eq_getElem hi, List.getElem?_eq_getElem hj] at e
  simp only [Option.getD_some] at e
  have hall : ∀ x : Int, x ∈ (List.range zs.length).map (fun i : Nat => (i : Int)) → x ∈ zs.eraseIdx i := by
    intro x hx
    obtain ⟨k, hk, rfl⟩ := List.mem_map.1 hx
    simp only [allIn, List.all_eq_true] at h
    have hm : ((k : Nat) : Int) ∈ zs := by simpa using h k hk
    obtain ⟨q, hq, hqe⟩ := List.getElem_of_mem hm
    rw [List.mem_eraseIdx_iff_getElem]
    by_cases hqi : q = i
    · subst hqi
      exact ⟨j, hj, by omega, by rw [← e]; exact hqe⟩
    · exact ⟨q, hq, hqi, hqe⟩
  have h1 := len_of_sub (range_nodup zs.length) hall
  rw [List.length_eraseIdx_of_lt hi] at h1
  simp at h1
  omega
theorem place_here {zs : List Int} (h : allIn zs.length zs = true) {j : Nat} (hj : j < zs.length) : place zs (zs.getD j 0) = j := by
  have h1 : place zs (zs.getD j 0) ≤ j := place_of rfl
  rcases Nat.lt_or_ge (place zs (zs.getD j 0)) j with hlt | hge
  · exact absurd (place_at (v := zs.getD j 0) (by omega)) (once h hlt hj)
  · omega
theorem ord_at {zs : List Int} (h : ord zs = true) : shuf zs = true ∧ allIn zs.length zs = true := by
  simpa only [ord, Bool.and_eq_true] using h
theorem allIn_at {m : Nat} {zs : List Int} (h : allIn m zs = true) {k : Nat} (hk : k < m) : zs.contains (k : Int) = true := by
  simp only [allIn, List.all_eq_true] at h
  exact h k (List.mem_range.2 hk)
theorem allIn_succ (k : Nat) (zs : List Int) : allIn (k + 1) zs = (allIn k zs && zs.contains (k : Int)) := by
  simp [allIn, List.range_succ]
theorem allIn_not {m k : Nat} {zs : List Int} (hk : k < m) (h : zs.contains (k : Int) = false) : allIn m zs = false :=
  Bool.eq_false_iff.2 fun hh => by rw [allIn_at hh hk] at h; cases h
/-- The inverse as it is filled, place by place. -/
def invK (zs : List Int) : Nat → List Int
  | 0 => List.replicate zs.length 0
  | k + 1 => (invK zs k).set (zs.getD k 0).toNat (k : Int)
theorem invK_len (zs : List Int) (k : Nat) : (invK zs k).length = zs.length := by
  induction k with
  | zero => simp [invK]
  | succ k ih => simp [invK, ih]
theorem invK_at {zs : List Int} (h : ord zs = true) {v : Nat} (hv : v < zs.length) : ∀ k, k ≤ zs.length → (invK zs k).getD v 0 = if place zs v < k then (place zs v : Int) else 0 := by
  obtain ⟨h1, h2⟩ := ord_at h
  have hi := shuf_idxs h1
  have hp := place_mem (allIn_at h2 hv)
  have hpa := place_at hp
  intro k
  induction k with
  | zero => intro _; simp [invK, List.getD_eq_getElem?_getD, hv]
  | succ k ih =>
    intro hk
    have ih' := ih (by omega)
    have hr := idxs_at hi (show k < zs.length by omega)
    rw [List.getD_eq_getElem?_getD] at ih' ⊢
    simp only [invK]
    rw [List.getElem?_set]
    by_cases he : (zs.getD k 0).toNat = v
    · have hzk : zs.getD k 0 = (v : Int) := by omega
      have hpk : place zs v = k := by have := place_here h2 (show k < zs.length by omega); rw [hzk] at this; exact this
      rw [if_pos he, invK_len, if_pos (by omega), hpk, if_pos (by omega)]
      rfl
    · rw [if_neg he, ih']
      have hne : place zs v ≠ k := by
        intro e
        apply he
        have := hpa
        rw [e] at this
        omega
      by_cases hlt : place zs v < k
      · rw [if_pos hlt, if_pos (by omega)]
      · rw [if_neg hlt, if_neg (by omega)]
theorem invK_all {zs : List Int} (h : ord zs = true) : invK zs zs.length = invL zs := by
  apply List.ext_getElem
  · rw [invK_len, invL, tab_len]
  · intro v h1 h2
    rw [invK_len] at h1
    have hp := place_mem (allIn_at (ord_at h).2 h1)
    have := invK_at h h1 zs.length (Nat.le_refl _)
    rw [if_pos hp, List.getD_eq_getElem?_getD, List.getElem?_eq_getElem (by rw [invK_len]; exact h1)] at this
    simp only [Option.getD_some] at this
    rw [this]
    simp [invL, tab]
theorem invL_at {zs : List Int} {v : Nat} (hv : v < zs.length) : (invL zs).getD v 0 = (place zs v : Int) := tab_getD _ _ _ hv
/-- The element of a named shuffle. -/
def nel (kind n by' i : Int) : Int :=
  if kind = 0 then (i + by') % n else if kind = 1 then n - 1 - i else if kind = 2 then ((i.toNat ^^^ by'.toNat : Nat) : Int)
  else if kind = 3 then i / 2 + i % 2 * (n / 2) else if kind = 4 then 2 * i % n + 2 * i / n else by'
def namedOk (kind n by' : Int) : Bool := lanes n && decide (0 ≤ kind ∧ kind ≤ 5) && decide (0 ≤ by' ∧ by' < n) && !(decide (0 < by') && (kind == 1 || kind == 3 || kind == 4))
def namedL (kind n by' : Int) : List Int := tab (fun i => nel kind n by' i) n.toNat
def named (kind n by' : Int) : List Int × Bool := ans (namedOk kind n by') (namedL kind n by')
theorem xor_lt {n i b : Int} (h : lanes n = true) (hi : 0 ≤ i ∧ i < n) (hb : 0 ≤ b ∧ b < n) : ((i.toNat ^^^ b.toNat : Nat) : Int) < n := by
  have key : ∀ k : Nat, n = ((2 ^ k : Nat) : Int) → ((i.toNat ^^^ b.toNat : Nat) : Int) < n := by
    intro k hk
    have h1 : i.toNat < 2 ^ k := by omega
    have h2 : b.toNat < 2 ^ k := by omega
    have := Nat.xor_lt_two_pow h1 h2
    omega
  rcases lanes_cases h with e | e | e | e
  · exact key 1 (by rw [e]; rfl)
  · exact key 2 (by rw [e]; rfl)
  · exact key 3 (by rw [e]; rfl)
  · exact key 4 (by rw [e]; rfl)
theorem nel_lt {kind n b i : Int} (h : lanes n = true) (hi : 0 ≤ i ∧ i < n) (hb : 0 ≤ b ∧ b < n) : 0 ≤ nel kind n b i ∧ nel kind n b i < n := by
  have hx := xor_lt h hi hb
  have hn := lanes_cases h
  unfold nel
  split
  · exact ⟨Int.emod_nonneg _ (by omega), Int.emod_lt_of_pos _ (by omega)⟩
  · split
    · omega
    · split
      · omega
      · split
        · rcases hn with rfl | rfl | rfl | rfl <;> omega
        · split
          · rcases hn with rfl | rfl | rfl | rfl <;> omega
          · omega
theorem namedL_len (kind n b : Int) : (namedL kind n b).length = n.toNat := tab_len _ _
theorem zip_ord {n : Int} (h : lanes n = true) : ord (namedL 3 n 0) = true ∧ invL (namedL 3 n 0) = namedL 4 n 0 := by
  rcases lanes_cases h with rfl | rfl | rfl | rfl <;> decide
theorem unzip_ord {n : Int} (h : lanes n = true) : ord (namedL 4 n 0) = true := by
  rcases lanes_cases h with rfl | rfl | rfl | rfl <;> decide
end Ln
