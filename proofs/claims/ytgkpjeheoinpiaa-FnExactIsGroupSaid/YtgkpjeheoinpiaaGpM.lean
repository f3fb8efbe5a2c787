/-
  Groups of statements: what the model asks of a group, and what the code asks of each two of its statements; both are the same for 2 and 4 lanes. Plain mathematics.
-/
import Derived.Test.YtgkpjeheoinpiaaScM
import Derived.Test.YtgkpjeheoinpiaaShM
set_option linter.unusedVariables false
set_option linter.unusedSimpArgs false
namespace Gp
open Sc
theorem must_comm (x y : St) : must x y = must y x := by
  rw [Bool.eq_iff_iff]; unfold must; simp; omega
theorem must_self (x : St) : must x x = true := by unfold must; simp
/-- The cells that a number chooses: D, A or B. -/
def cell (which : Nat) (s : St) : Int := if which = 0 then s.d else if which = 1 then s.a else s.b
def cells (c : List St) (g : List Int) (which : Nat) : List Int := g.map fun i => cell which (nth c i.toNat)
theorem cells_len (c : List St) (g : List Int) (which : Nat) : (cells c g which).length = g.length := by simp [cells]
/-- The least and the greatest one of the first k of some numbers, of at least the first one. -/
def lowTo (l : List Int) : Nat → Int
  | 0 => l.getD 0 0
  | k + 1 => min (lowTo l k) (l.getD (k + 1) 0)
def highTo (l : List Int) : Nat → Int
  | 0 => l.getD 0 0
  | k + 1 => max (highTo l k) (l.getD (k + 1) 0)
def low (l : List Int) : Int := lowTo l (l.length - 1)
def high (l : List Int) : Int := highTo l (l.length - 1)
def at_ (c : List St) (g : List Int) (k : Nat) : St := nth c (g.getD k 0).toNat
/-- What the model asks of the lane k of a group. -/
def pass (c : List St) (g : List Int) (k : Nat) : Bool :=
  decide (0 ≤ g.getD k 0 ∧ g.getD k 0 ≤ (c.length : Int) - 1) && (!(g.take k).contains (g.getD k 0) && ((at_ c g k).op == (at_ c g 0).op && (List.range k).all fun j => !must (at_ c g j) (at_ c g k)))
def passAll (c : List St) (g : List Int) : Bool := (List.range g.length).all (pass c g)
def near (l : Int) (c : List St) (g : List Int) (which : Nat) : Bool := !decide (2 * l ≤ high (cells c g which) - low (cells c g which))
def side (l : Int) (c : List St) (g : List Int) : Bool := high (cells c g 0) - low (cells c g 0) == l - 1
/-- A group, as the model has it. -/
def grp (l : Int) (c : List St) (g : List Int) : Bool :=
  decide ((g.length : Int) = l) && (passAll c g && (near l c g 1 && (near l c g 2 && side l c g)))
/-- Two statements can be in a group, as the code has it: x is the one whose mates are asked. -/
def inB (n b : Int) : Bool := decide (1 - b ≤ n ∧ n ≤ b - 1)
def fit (l : Int) (x y : St) : Bool := x.op == y.op && (!must y x && (inB (x.a - y.a) (2 * l) && (inB (x.b - y.b) (2 * l) && inB (x.d - y.d) l)))
/-- The statements that can be in a group with the statement i. -/
def mate (l : Int) (c : List St) (n i : Nat) : Nat := setOf (fun j => fit l (nth c i) (nth c j)) n
/-- Those that can be with the first k of a list. -/
def fitting (l : Int) (c : List St) (g : List Int) : Nat → Nat
  | 0 => 2 ^ c.length - 1
  | k + 1 => fitting l c g k &&& mate l c c.length (g.getD k 0).toNat
def grpI (l : Int) (c : List St) (g : List Int) : Bool :=
  decide ((g.length : Int) = l) && (Ln.idxs c.length g && (List.range g.length).all fun k => (fitting l c g k).testBit (g.getD k 0).toNat)
theorem tb_ones (n k : Nat) : (2 ^ n - 1).testBit k = decide (k < n) := Nat.testBit_two_pow_sub_one n k
theorem tb_fitting (l : Int) (c : List St) (g : List Int) (k t : Nat) : (fitting l c g k).testBit t = (decide (t < c.length) && (List.range k).all fun j => fit l (at_ c g j) (nth c t)) := by
  induction k with
  | zero => simp [fitting, tb_ones]
  | succ k ih =>
    rw [fitting, Nat.testBit_and, ih, mate, tb_setOf, List.range_succ, List.all_append]
    cases decide (t < c.length) <;> simp [at_]
theorem fitting_lt {l : Int} {c : List St} (g : List Int) (k : Nat) (h : c.length ≤ 31) : fitting l c g k < 4294967296 := by
  induction k with
  | zero => rw [fitting]; have := pow_lt h; omega
  | succ k ih => rw [fitting]; exact and_lt ih
theorem getD_two (x y : Int) : ([x, y].getD 0 0 = x) ∧ ([x, y].getD 1 0 = y) := ⟨rfl, rfl⟩
theorem near2 (a b : Int) (B : Int) : (max a b - min a b < B) ↔ (1 - B ≤ a - b ∧ a - b ≤ B - 1) := by omega
theorem near4 (a b c d B : Int) : (max (max (max a b) c) d - min (min (min a b) c) d < B) ↔ (1 - B ≤ a - b ∧ a - b ≤ B - 1) ∧ (1 - B ≤ a - c ∧ a - c ≤ B - 1) ∧ (1 - B ≤ b - c ∧ b - c ≤ B - 1) ∧ (1 - B ≤ a - d ∧ a - d ≤ B - 1) ∧ (1 - B ≤ b - d ∧ b - d ≤ B - 1) ∧ (1 - B ≤ c - d ∧ c - d ≤ B - 1) := by
  omega
theorem side4 (a b c d : Int) (h1 : a ≠ b) (h2 : a ≠ c) (h3 : a ≠ d) (h4 : b ≠ c) (h5 : b ≠ d) (h6 : c ≠ d) : (max (max (max a b) c) d - min (min (min a b) c) d = 3) ↔ (max (max (max a b) c) d - min (min (min a b) c) d < 4) := by
  constructor
  · omega
  · intro h
    obtain ⟨m, hm⟩ : ∃ m, m = min (min (min a b) c) d := ⟨_, rfl⟩
    obtain ⟨M, hM⟩ : ∃ M, M = max (max (max a b) c) d := ⟨_, rfl⟩
    rw [← hm, ← hM] at h ⊢
    by_cases e : M - m = 3
    · exact e
    · exfalso
      have ha : a = m ∨ a = m + 1 ∨ a = m + 2 := by omega
      have hb : b = m ∨ b = m + 1 ∨ b = m + 2 := by omega
      have hc : c = m ∨ c = m + 1 ∨ c = m + 2 := by omega
      have hd : d = m ∨ d = m + 1 ∨ d = m + 2 := by omega
      clear hm hM h e
      rcases ha with rfl | rfl | rfl <;> rcases hb with rfl | rfl | rfl <;> rcases hc with rfl | rfl | rfl <;> rcases hd with rfl | rfl | rfl <;> omega
theorem must_d {x y : St} (h : must x y = false) : x.d ≠ y.d := by
  unfold must at h; simp at h; omega
theorem fit_iff (l : Int) (x y : St) : fit l x y = true ↔ x.op = y.op ∧ must x y = false ∧ (1 - 2 * l ≤ x.a - y.a ∧ x.a - y.a ≤ 2 * l - 1) ∧ (1 - 2 * l ≤ x.b - y.b ∧ x.b - y.b ≤ 2 * l - 1) ∧ (1 - l ≤ x.d - y.d ∧ x.d - y.d ≤ l - 1) := by
  unfold fit inB
  rw [must_comm y x]
  simp
theorem grp_two (c : List St) (x y : Int) : grp 2 c [x, y] = grpI 2 c [x, y] := by
  have f : ∀ k : Nat, (k = 0 ∨ k = 1) → ∀ z : Int, 0 ≤ z → z < c.length → (fitting 2 c [x, y] k).testBit z.toNat = (List.range k).all fun j => fit 2 (at_ c [x, y] j) (nth c z.toNat) := by
    intro k _ z h0 h1
    rw [tb_fitting, decide_eq_true (by omega)]; rfl
  by_cases hx : 0 ≤ x ∧ x ≤ (c.length : Int) - 1
  · by_cases hy : 0 ≤ y ∧ y ≤ (c.length : Int) - 1
    · have e1 := f 0 (by omega) x hx.1 (by omega)
      have e2 := f 1 (by omega) y hy.1 (by omega)
      obtain ⟨p, hp⟩ : ∃ p, p = nth c x.toNat := ⟨_, rfl⟩
      obtain ⟨q, hq⟩ : ∃ q, q = nth c y.toNat := ⟨_, rfl⟩
      have a0 : at_ c [x, y] 0 = p := hp.symm
      have a1 : at_ c [x, y] 1 = q := hq.symm
      have k0 : ∀ w, cells c [x, y] w = [cell w p, cell w q] := by intro w; simp [cells, hp, hq]
      have hxy : must p q = false → (x == y) = false := by
        intro h
        cases e : x == y
        · rfl
        · rw [beq_iff_eq] at e
          rw [← e, ← hp] at hq
          rw [hq, must_self] at h; cases h
      rw [Bool.eq_iff_iff]
      simp only [grp, grpI, passAll, pass, near, side, k0, low, high, lowTo, highTo, List.length_cons, List.length_nil, List.range_succ, List.range_zero, List.all_append, List.all_cons, List.all_nil, Bool.and_true, Ln.idxs]
      simp only [List.nil_append, List.all_cons, List.all_nil, Bool.and_true, (getD_two x y).1, (getD_two x y).2, e1, e2, a0, a1, List.range_succ, List.range_zero, List.all_append, ← hp, ← hq]
      have hm := fit_iff 2 p q
      have hd := @must_d p q
      have hyx : (y == x) = (x == y) := by rw [Bool.eq_iff_iff]; simp; omega
      simp only [cell, if_true, List.getD_cons_zero, List.getD_cons_succ, decide_eq_true hx, decide_eq_true hy, Nat.add_sub_cancel, lowTo, highTo]
      simp [hm, hx.1, hy.1, hyx]
      constructor
      · rintro ⟨⟨hc, ho, hmf⟩, h1, h2, h3⟩
        have := hd hmf
        exact ⟨by omega, ho.symm, hmf, by omega, by omega, by omega⟩
      · rintro ⟨hlt, ho, hmf, h1, h2, h3⟩
        have := hd hmf
        have hne := hxy hmf
        simp at hne
        exact ⟨⟨fun h => hne h.symm, ho.symm, hmf⟩, by omega, by omega, by omega⟩
    · have : grp 2 c [x, y] = false := by
        simp only [grp, passAll, pass, List.length_cons, List.length_nil, List.range_succ, List.range_zero, List.nil_append, List.all_append, List.all_cons, List.all_nil, (getD_two x y).2, decide_eq_false hy]
        simp
      rw [this]
      simp [grpI, Ln.idxs]
      omega
  · have : grp 2 c [x, y] = false := by
      simp only [grp, passAll, pass, List.length_cons, List.length_nil, List.range_succ, List.range_zero, List.nil_append, List.all_append, List.all_cons, List.all_nil, (getD_two x y).1, decide_eq_false hx]
      simp
    rw [this]
    simp [grpI, Ln.idxs]
    omega
theorem pass_idxs {c : List St} {g : List Int} (h : passAll c g = true) : Ln.idxs c.length g = true := by
  unfold passAll at h
  rw [List.all_eq_true] at h
  unfold Ln.idxs
  rw [List.all_eq_true]
  intro z hz
  obtain ⟨k, hk, rfl⟩ := List.getElem_of_mem hz
  have := h k (List.mem_range.2 hk)
  unfold pass at this
  rw [Bool.and_eq_true, decide_eq_true_eq, List.getD_eq_getElem?_getD, List.getElem?_eq_getElem hk] at this
  have h2 := this.1
  simp at h2 ⊢
  omega
theorem grp_no {l : Int} {c : List St} {g : List Int} (h : Ln.idxs c.length g = false) : grp l c g = false ∧ grpI l c g = false := by
  constructor
  · unfold grp
    cases e : passAll c g
    · simp
    · rw [pass_idxs e] at h; cases h
  · unfold grpI; rw [h]; simp
theorem grp_four (c : List St) (x y z u : Int) : grp 4 c [x, y, z, u] = grpI 4 c [x, y, z, u] := by
  cases hi : Ln.idxs c.length [x, y, z, u]
  · rw [(grp_no hi).1, (grp_no hi).2]
  have hr := hi
  simp [Ln.idxs] at hr
  have f : ∀ k : Nat, ∀ z' : Int, 0 ≤ z' → z' < c.length → (fitting 4 c [x, y, z, u] k).testBit z'.toNat = (List.range k).all fun j => fit 4 (at_ c [x, y, z, u] j) (nth c z'.toNat) := by
    intro k z' h0 h1
    rw [tb_fitting, decide_eq_true (by omega)]; rfl
  have e0 := f 0 x (by omega) (by omega)
  have e1 := f 1 y (by omega) (by omega)
  have e2 := f 2 z (by omega) (by omega)
  have e3 := f 3 u (by omega) (by omega)
  have r0 : 0 ≤ x ∧ x ≤ (c.length : Int) - 1 := by omega
  have r1 : 0 ≤ y ∧ y ≤ (c.length : Int) - 1 := by omega
  have r2 : 0 ≤ z ∧ z ≤ (c.length : Int) - 1 := by omega
  have r3 : 0 ≤ u ∧ u ≤ (c.length : Int) - 1 := by omega
  obtain ⟨p0, hp0⟩ : ∃ p, p = nth c x.toNat := ⟨_, rfl⟩
  obtain ⟨p1, hp1⟩ : ∃ p, p = nth c y.toNat := ⟨_, rfl⟩
  obtain ⟨p2, hp2⟩ : ∃ p, p = nth c z.toNat := ⟨_, rfl⟩
  obtain ⟨p3, hp3⟩ : ∃ p, p = nth c u.toNat := ⟨_, rfl⟩
  have a0 : at_ c [x, y, z, u] 0 = p0 := hp0.symm
  have a1 : at_ c [x, y, z, u] 1 = p1 := hp1.symm
  have a2 : at_ c [x, y, z, u] 2 = p2 := hp2.symm
  have a3 : at_ c [x, y, z, u] 3 = p3 := hp3.symm
  have g0 : [x, y, z, u].getD 0 0 = x := rfl
  have g1 : [x, y, z, u].getD 1 0 = y := rfl
  have g2 : [x, y, z, u].getD 2 0 = z := rfl
  have g3 : [x, y, z, u].getD 3 0 = u := rfl
  have k0 : ∀ w, cells c [x, y, z, u] w = [cell w p0, cell w p1, cell w p2, cell w p3] := by intro w; simp [cells, hp0, hp1, hp2, hp3]
  have ne : ∀ (i j : Int) (p q : St), p = nth c i.toNat → q = nth c j.toNat → must p q = false → i ≠ j := by
    rintro i j p q rfl rfl h rfl
    rw [must_self] at h; cases h
  have n01 := ne x y p0 p1 hp0 hp1
  have n02 := ne x z p0 p2 hp0 hp2
  have n12 := ne y z p1 p2 hp1 hp2
  have n03 := ne x u p0 p3 hp0 hp3
  have n13 := ne y u p1 p3 hp1 hp3
  have n23 := ne z u p2 p3 hp2 hp3
  have d01 := @must_d p0 p1
  have d02 := @must_d p0 p2
  have d12 := @must_d p1 p2
  have d03 := @must_d p0 p3
  have d13 := @must_d p1 p3
  have d23 := @must_d p2 p3
  have hA := near4 p0.a p1.a p2.a p3.a (2 * 4)
  have hB := near4 p0.b p1.b p2.b p3.b (2 * 4)
  have hD := near4 p0.d p1.d p2.d p3.d 4
  have hS := side4 p0.d p1.d p2.d p3.d
  rw [Bool.eq_iff_iff]
  simp only [grp, grpI, passAll, pass, near, side, k0, low, high, List.length_cons, List.length_nil, List.range_succ, List.range_zero, List.nil_append, List.all_append, List.all_cons, List.all_nil, Bool.and_true, hi,
    g0, g1, g2, g3, e0, e1, e2, e3, a0, a1, a2, a3, decide_eq_true r0, decide_eq_true r1, decide_eq_true r2, decide_eq_true r3, ← hp0, ← hp1, ← hp2, ← hp3, cell, Bool.true_and]
  simp only [lowTo, highTo, List.take, List.getD_cons_zero, List.getD_cons_succ, if_true, Nat.add_sub_cancel, Nat.succ_ne_zero, if_false]
  clear f e0 e1 e2 e3 r0 r1 r2 r3 a0 a1 a2 a3 g0 g1 g2 g3 k0 hp0 hp1 hp2 hp3 ne hi hr
  simp only [Bool.and_eq_true, fit_iff]
  have t : ∀ a b : Int, (!decide (a ≤ b)) = true ↔ b < a := by intro a b; simp
  have q : ∀ a b : Int, (a == b) = true ↔ a = b := fun a b => beq_iff_eq
  have v : ∀ b : Bool, (!b) = true ↔ b = false := by decide
  simp only [if_neg (show ¬ (2 : Nat) = 1 by decide), t, q, v]
  constructor
  · rintro ⟨h4, ⟨⟨⟨⟨-, -⟩, -, o1, m1⟩, -, o2, m2, m2'⟩, -, o3, ⟨m3, m3'⟩, m3''⟩, ha, hb, hd⟩
    obtain ⟨A1, A2, A3, A4, A5, A6⟩ := hA.1 ha
    obtain ⟨B1, B2, B3, B4, B5, B6⟩ := hB.1 hb
    obtain ⟨D1, D2, D3, D4, D5, D6⟩ := hD.1 (by omega)
    exact ⟨h4, ⟨⟨o1.symm, m1, A1, B1, D1⟩, ⟨o2.symm, m2, A2, B2, D2⟩, o1.trans o2.symm, m2', A3, B3, D3⟩, ⟨⟨o3.symm, m3, A4, B4, D4⟩, o1.trans o3.symm, m3', A5, B5, D5⟩, o2.trans o3.symm, m3'', A6, B6, D6⟩
  · rintro ⟨h4, ⟨⟨o1, m1, A1, B1, D1⟩, ⟨o2, m2, A2, B2, D2⟩, o12, m2', A3, B3, D3⟩, ⟨⟨o3, m3, A4, B4, D4⟩, o13, m3', A5, B5, D5⟩, o23, m3'', A6, B6, D6⟩
    have hd := (hS (d01 m1) (d02 m2) (d03 m3) (d12 m2') (d13 m3') (d23 m3'')).2 (hD.2 ⟨D1, D2, D3, D4, D5, D6⟩)
    have w01 := n01 m1
    have w02 := n02 m2
    have w12 := n12 m2'
    have w03 := n03 m3
    have w13 := n13 m3'
    have w23 := n23 m3''
    refine ⟨h4, ⟨⟨⟨⟨by simp, trivial⟩, by simp; omega, o1.symm, m1⟩, by simp; omega, o2.symm, m2, m2'⟩, by simp; omega, o3.symm, ⟨m3, m3'⟩, m3''⟩, hA.2 ⟨A1, A2, A3, A4, A5, A6⟩, hB.2 ⟨B1, B2, B3, B4, B5, B6⟩, by omega⟩
theorem ends_bd {c : List St} {g : List Int} (which : Nat) (h0 : 0 < g.length) (h : ∀ j, j < g.length → ok (nth c (g.getD j 0).toNat) = true) :
    (0 ≤ low (cells c g which) ∧ low (cells c g which) ≤ 31) ∧ (0 ≤ high (cells c g which) ∧ high (cells c g which) ≤ 31) := by
  have hc : ∀ j, j < g.length → 0 ≤ (cells c g which).getD j 0 ∧ (cells c g which).getD j 0 ≤ 31 := by
    intro j hj
    have h1 := ok_cells (h j hj)
    have e : (cells c g which).getD j 0 = cell which (nth c (g.getD j 0).toNat) := by
      rw [cells, List.getD_eq_getElem?_getD, List.getElem?_map, List.getElem?_eq_getElem hj, List.getD_eq_getElem?_getD, List.getElem?_eq_getElem hj]; rfl
    rw [e]
    unfold cell
    split
    · omega
    · split <;> omega
  have key : ∀ k, k < g.length → (0 ≤ lowTo (cells c g which) k ∧ lowTo (cells c g which) k ≤ 31) ∧ (0 ≤ highTo (cells c g which) k ∧ highTo (cells c g which) k ≤ 31) := by
    intro k
    induction k with
    | zero => intro hk; have := hc 0 hk; exact ⟨this, this⟩
    | succ k ih =>
      intro hk
      have h1 := ih (by omega)
      have h2 := hc (k + 1) hk
      rw [lowTo, highTo]
      omega
  unfold low high
  rw [cells_len]
  exact key _ (by omega)
/-- The model's groups are the code's. -/
theorem grp_same {l : Int} (c : List St) (g : List Int) (hl : l = 2 ∨ l = 4) : grp l c g = grpI l c g := by
  by_cases e : (g.length : Int) = l
  · rcases hl with rfl | rfl
    · match g, e with
      | [x, y], _ => exact grp_two c x y
    · match g, e with
      | [x, y, z, u], _ => exact grp_four c x y z u
  · simp [grp, grpI, e]
end Gp
