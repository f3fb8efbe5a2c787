/-
  Plain mathematics of squares that are transposed by exchanges of lanes, from the near to the far and back. No program, no memory.
-/
import Derived.Test.YtigodbilfjppbaaTsM
namespace Ln
set_option linter.unusedVariables false
/-- A square made of the cells of another one. -/
def sqP (zss : List (List Int)) (n : Nat) (p q : Nat → Nat → Nat) : List (List Int) := tabR (fun r => tab (fun s => el zss (p r s) (q r s)) n) n
def upP (g r s : Nat) : Nat := r - r % g + s % g
def dnP (g r s : Nat) : Nat := s - s % g + r % g
/-- The square behind the exchanges at all distances below g. -/
def upL (zss : List (List Int)) (n g : Nat) : List (List Int) := sqP zss n (upP g) (fun r s => upP g s r)
/-- The square behind the exchanges at all distances from g on. -/
def dnL (zss : List (List Int)) (n g : Nat) : List (List Int) := sqP zss n (dnP g) (fun r s => dnP g s r)
theorem sqP_len (zss : List (List Int)) (n : Nat) (p q : Nat → Nat → Nat) : (sqP zss n p q).length = n := tabR_len _ _
theorem sqP_row (zss : List (List Int)) (n : Nat) (p q : Nat → Nat → Nat) (r : Nat) (h : r < n) : (sqP zss n p q).getD r [] = tab (fun s => el zss (p r s) (q r s)) n := tabR_getD _ _ _ h
theorem sqP_el (zss : List (List Int)) (n : Nat) (p q : Nat → Nat → Nat) (r s : Nat) (hr : r < n) (hs : s < n) : el (sqP zss n p q) r s = el zss (p r s) (q r s) := el_tabR _ n r s hr hs
theorem sqP_congr {zss : List (List Int)} {n : Nat} {p q p' q' : Nat → Nat → Nat} (h : ∀ r, r < n → ∀ s, s < n → p r s = p' r s ∧ q r s = q' r s) : sqP zss n p q = sqP zss n p' q' := by
  unfold sqP
  refine tabR_congr fun r hr => tab_congr fun s hs => ?_
  obtain ⟨h1, h2⟩ := h r hr s hs
  rw [h1, h2]
theorem sqP_ok {b : Int} {zss : List (List Int)} (h : rowsOk b zss = true) {n : Nat} (hn : zss.length = n) {p q : Nat → Nat → Nat} (hp : ∀ r, r < n → ∀ s, s < n → p r s < n ∧ q r s < n) : rowsOk b (sqP zss n p q) = true := by
  obtain ⟨h1, h2, h3⟩ := rowsOk_at h
  subst hn
  unfold rowsOk
  rw [sqP_len, decide_eq_true h2, Bool.true_and, List.all_eq_true]
  intro z hz
  unfold sqP tabR at hz
  rw [List.mem_map] at hz
  obtain ⟨r, hr, rfl⟩ := hz
  have hr := List.mem_range.1 hr
  unfold rowOk vec
  rw [tab_len, h1, Bool.true_and, Bool.and_eq_true, beq_iff_eq, List.all_eq_true]
  refine ⟨rfl, fun x hx => ?_⟩
  unfold tab at hx
  rw [List.mem_map] at hx
  obtain ⟨s, hs, rfl⟩ := hx
  have hs := List.mem_range.1 hs
  obtain ⟨hp1, hp2⟩ := hp r hr s hs
  obtain ⟨h4, h5⟩ := h3 _ hp1
  simp only [vec, Bool.and_eq_true, List.all_eq_true] at h5
  have hq : q r s < (zss.getD (p r s) []).length := by omega
  have := h5.2 _ (List.getElem_mem hq)
  unfold el
  rw [List.getD_eq_getElem?_getD, List.getElem?_eq_getElem hq]
  exact this
theorem sq_four {n : Nat} (h : lanes n = true) : n = 2 ∨ n = 4 ∨ n = 8 ∨ n = 16 := by have := lanes_cases h; omega
/-- What is known of the distances g below n. -/
theorem up_in {n g : Nat} (hl : lanes n = true) (hg : g = 1 ∨ g = 2 ∨ g = 4 ∨ g = 8 ∨ g = 16) (hgn : g ≤ n) : (∀ r, r < n → ∀ s, s < n → upP g r s < n ∧ upP g s r < n) ∧ (∀ r, r < n → ∀ s, s < n → dnP g r s < n ∧ dnP g s r < n) := by
  have h4 := sq_four hl
  rcases hg with rfl | rfl | rfl | rfl | rfl <;> rcases h4 with rfl | rfl | rfl | rfl <;> first | omega | decide
theorem up_step {n f : Nat} (hl : lanes n = true) (hf : f = 1 ∨ f = 2 ∨ f = 4 ∨ f = 8) (hfn : f < n) :
    (∀ r, r < n → ∀ s, s < n → (r ^^^ f < n ∧ s ^^^ f < n) ∧
      (r &&& f ≠ s &&& f → upP f (r ^^^ f) (s ^^^ f) = upP (f * 2) r s ∧ dnP (f * 2) (r ^^^ f) (s ^^^ f) = dnP f r s) ∧
      (r &&& f = s &&& f → upP f r s = upP (f * 2) r s ∧ dnP (f * 2) r s = dnP f r s)) := by
  have h4 := sq_four hl
  rcases hf with rfl | rfl | rfl | rfl <;> rcases h4 with rfl | rfl | rfl | rfl <;> first | omega | decide
theorem xor_comm' (f : Nat) : ∀ r s : Nat, (r &&& f ≠ s &&& f) ↔ (s &&& f ≠ r &&& f) := fun _ _ => ⟨Ne.symm, Ne.symm⟩
theorem step_up {zss : List (List Int)} {n f : Nat} (hl : lanes n = true) (hf : f = 1 ∨ f = 2 ∨ f = 4 ∨ f = 8) (hfn : f < n) : stepL (upL zss n f) n f = upL zss n (f * 2) := by
  have k := up_step hl hf hfn
  unfold stepL
  unfold upL
  unfold sqP
  refine tabR_congr fun r hr => tab_congr fun s hs => ?_
  obtain ⟨⟨x1, x2⟩, k1, k2⟩ := k r hr s hs
  obtain ⟨_, k3, k4⟩ := k s hs r hr
  by_cases e : r &&& f = s &&& f
  · rw [if_neg (fun h => h e), el_tabR _ n r s hr hs]; dsimp only; rw [(k2 e).1, (k4 e.symm).1]
  · rw [if_pos e, el_tabR _ n _ _ x1 x2]; dsimp only; rw [(k1 e).1, (k3 (Ne.symm e)).1]
theorem step_dn {zss : List (List Int)} {n f : Nat} (hl : lanes n = true) (hf : f = 1 ∨ f = 2 ∨ f = 4 ∨ f = 8) (hfn : f < n) : stepL (dnL zss n (f * 2)) n f = dnL zss n f := by
  have k := up_step hl hf hfn
  unfold stepL
  unfold dnL
  unfold sqP
  refine tabR_congr fun r hr => tab_congr fun s hs => ?_
  obtain ⟨⟨x1, x2⟩, k1, k2⟩ := k r hr s hs
  obtain ⟨_, k3, k4⟩ := k s hs r hr
  by_cases e : r &&& f = s &&& f
  · rw [if_neg (fun h => h e), el_tabR _ n r s hr hs]; dsimp only; rw [(k2 e).2, (k4 e.symm).2]
  · rw [if_pos e, el_tabR _ n _ _ x1 x2]; dsimp only; rw [(k1 e).2, (k3 (Ne.symm e)).2]
theorem sq_self {b : Int} {zss : List (List Int)} (h : rowsOk b zss = true) {n : Nat} (hn : zss.length = n) {p q : Nat → Nat → Nat} (hp : ∀ r, r < n → ∀ s, s < n → p r s = r ∧ q r s = s) : sqP zss n p q = zss := by
  obtain ⟨h1, h2, h3⟩ := rowsOk_at h
  subst hn
  refine sq_ext (n := zss.length) (sqP_len _ _ _ _) rfl (fun r hr => by rw [sqP_row _ _ _ _ _ hr, tab_len]) (fun r hr => (h3 r hr).1) fun r s hr hs => ?_
  rw [sqP_el _ _ _ _ _ _ hr hs, (hp r hr s hs).1, (hp r hr s hs).2]
theorem trL_sqP (zss : List (List Int)) {n : Nat} (hn : zss.length = n) : trL zss = sqP zss n (fun _ s => s) (fun r _ => r) := by subst hn; rfl
theorem up_one {b : Int} {zss : List (List Int)} (h : rowsOk b zss = true) {n : Nat} (hn : zss.length = n) : upL zss n 1 = zss :=
  sq_self h hn fun r _ s _ => ⟨by unfold upP; omega, by unfold upP; omega⟩
theorem up_all (zss : List (List Int)) {n : Nat} (hn : zss.length = n) : upL zss n n = trL zss := by
  rw [trL_sqP zss hn]
  refine sqP_congr fun r hr s hs => ?_
  unfold upP
  rw [Nat.mod_eq_of_lt hr, Nat.mod_eq_of_lt hs]
  omega
theorem dn_all {b : Int} {zss : List (List Int)} (h : rowsOk b zss = true) {n : Nat} (hn : zss.length = n) : dnL zss n n = zss :=
  sq_self h hn fun r hr s hs => by
    unfold dnP
    rw [Nat.mod_eq_of_lt hr, Nat.mod_eq_of_lt hs]
    omega
theorem dn_one (zss : List (List Int)) {n : Nat} (hn : zss.length = n) : dnL zss n 1 = trL zss := by
  rw [trL_sqP zss hn]
  refine sqP_congr fun r hr s hs => ?_
  unfold dnP
  omega
theorem tr_ok {b : Int} {zss : List (List Int)} (h : rowsOk b zss = true) : rowsOk b (trL zss) = true := by
  rw [trL_sqP zss rfl]
  exact sqP_ok h rfl fun r hr s hs => ⟨hs, hr⟩
theorem tr_tr {b : Int} {zss : List (List Int)} (h : rowsOk b zss = true) : trL (trL zss) = zss := by
  obtain ⟨h1, h2, h3⟩ := rowsOk_at h
  have hl := trL_len zss
  refine sq_ext (n := zss.length) ((trL_len _).trans hl) rfl (fun r hr => by rw [trL_at _ _ (by rw [hl]; exact hr), colL_len, hl]) (fun r hr => (h3 r hr).1) fun r s hr hs => ?_
  rw [el_tr _ _ _ (by rw [hl]; exact hr) (by rw [hl]; exact hs), el_tr _ _ _ hs hr]
theorem up_ok {b : Int} {zss : List (List Int)} (h : rowsOk b zss = true) {n g : Nat} (hn : zss.length = n) (hg : g = 1 ∨ g = 2 ∨ g = 4 ∨ g = 8 ∨ g = 16) (hgn : g ≤ n) : rowsOk b (upL zss n g) = true ∧ rowsOk b (dnL zss n g) = true := by
  have hl : lanes n = true := by rw [← hn]; exact (rowsOk_at h).1
  obtain ⟨h1, h2⟩ := up_in hl hg hgn
  exact ⟨sqP_ok h hn h1, sqP_ok h hn h2⟩
theorem far_ok {n f : Nat} (hf : f = 1 ∨ f = 2 ∨ f = 4 ∨ f = 8) (hfn : f < n) : dist n (f : Int) = true := by
  unfold dist isFar
  rw [decide_eq_true (by omega)]
  rcases hf with rfl | rfl | rfl | rfl <;> rfl
/-- The exchanges, in the words of the contracts. -/
theorem tstep_up {b : Int} {zss : List (List Int)} (h : rowsOk b zss = true) {n f : Nat} (hn : zss.length = n) (hf : f = 1 ∨ f = 2 ∨ f = 4 ∨ f = 8) (hfn : f < n) : tstep b (upL zss n f) (f : Int) = (upL zss n (f * 2), true) := by
  have hl : lanes n = true := by rw [← hn]; exact (rowsOk_at h).1
  have h1 := (up_ok h hn (g := f) (by omega) (by omega)).1
  unfold tstep
  rw [h1, show (upL zss n f).length = n from sqP_len _ _ _ _, far_ok hf hfn, Int.toNat_natCast, step_up hl hf hfn]
  rfl
theorem tstep_dn {b : Int} {zss : List (List Int)} (h : rowsOk b zss = true) {n f : Nat} (hn : zss.length = n) (hf : f = 1 ∨ f = 2 ∨ f = 4 ∨ f = 8) (hfn : f < n) (hfn2 : f * 2 ≤ n) : tstep b (dnL zss n (f * 2)) (f : Int) = (dnL zss n f, true) := by
  have hl : lanes n = true := by rw [← hn]; exact (rowsOk_at h).1
  have h1 := (up_ok h hn (g := f * 2) (by omega) hfn2).2
  unfold tstep
  rw [h1, show (dnL zss n (f * 2)).length = n from sqP_len _ _ _ _, far_ok hf hfn, Int.toNat_natCast, step_dn hl hf hfn]
  rfl
theorem transpose_ok {b : Int} {zss : List (List Int)} (h : rowsOk b zss = true) : transpose b zss = (trL zss, true) := by
  unfold transpose; rw [h]; rfl
theorem rowsOk_of {b : Int} {n : Nat} (hl : lanes n = true) {f : Nat → List Int} (h : ∀ k, k < n → (f k).length = n ∧ vec b (f k) = true) : rowsOk b (tabR f n) = true := by
  have h0 : 0 < n := by have := sq_four hl; omega
  unfold rowsOk
  rw [tabR_len, decide_eq_true h0, Bool.true_and, List.all_eq_true]
  intro z hz
  unfold tabR at hz
  rw [List.mem_map] at hz
  obtain ⟨k, hk, rfl⟩ := hz
  obtain ⟨h1, h2⟩ := h k (List.mem_range.1 hk)
  rw [rowOk, h1, h2]
  simp
end Ln
