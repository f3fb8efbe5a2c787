/-
  Transposed rows: the code's and the model's function; one contract each.
-/
import Derived.Test.YtokdddkbpmcfgaaDoorRowsW
import Derived.BigRegion
namespace Go.Proofs.YtokdddkbpmcfgaaDoor.Wds
open Go.RowKit
set_option linter.unusedVariables false

/-- Rows and a Bool are returned: all of them are new and share no cell. -/
def Ret1R (zss : List (List Int)) (ok : Bool) (w : World) (e : Ending) (w' : World) : Prop :=
  ∃ A n c, e = .returned (.tuple #[.slice A n c, .bool ok]) ∧ OwnR w' w.heap.size w'.heap.size A n zss ∧ Below w.heap.size w w'
/-- Rows and a Bool are returned, to be read. -/
def Read1R (zss : List (List Int)) (ok : Bool) (w : World) (e : Ending) (w' : World) : Prop :=
  ∃ A n c, e = .returned (.tuple #[.slice A n c, .bool ok]) ∧ RdR w' w'.heap.size A n zss ∧ Below w.heap.size w w'
theorem Ret1R.no {w w' : World} (hb : Below w.heap.size w w') : Ret1R Ln.noR.1 Ln.noR.2 w (.returned (.tuple #[.slice none 0 0, .bool false])) w' :=
  ⟨none, 0, 0, rfl, OwnR.nil _ _ _ _, hb⟩
theorem Read1R.no {w w' : World} (hb : Below w.heap.size w w') : Read1R Ln.noR.1 Ln.noR.2 w (.returned (.tuple #[.slice none 0 0, .bool false])) w' :=
  ⟨none, 0, 0, rfl, RdR.nil _ _ _, hb⟩
/-- One number of one row is written. -/
theorem OwnR.put {w : World} {lo hi n k : Nat} {A : Option Addr} {zss : List (List Int)} (h : OwnR w lo hi A n zss) (hk : k < n) {j : Nat} (hj : j < (zss.getD k []).length) :
    ∃ g o gr or' m c, A = some ⟨g, o, none⟩ ∧ w.cell? ⟨g, o + k, none⟩ = some (.slice (some ⟨gr, or', none⟩) m c) ∧ m ≤ c ∧ (zss.getD k []).length = m ∧ lo ≤ gr ∧ gr < hi ∧
      w.cell? ⟨gr, or' + j, none⟩ = some (.int .i64 ((zss.getD k []).getD j 0)) ∧ w.frozen? ⟨gr, or' + j, none⟩ = false ∧
      ∀ v : Int, OwnR (w.setCell ⟨gr, or' + j, none⟩ (.int .i64 v)) lo hi A n (zss.set k ((zss.getD k []).set j v)) := by
  obtain ⟨g, o, R, m, c, l, u, rfl, hc, hmc, hr, hlu, hset⟩ := h.row hk
  have hl := hr.len
  rw [hl] at hj
  obtain ⟨gr, or', rfl, h1, h2⟩ := hr.rd.at_ hj
  obtain ⟨hf, g1, g2, _⟩ := frozen_of hr hj rfl
  refine ⟨g, o, gr, or', m, c, rfl, hc, hmc, hl, by omega, by omega, h2, hf, fun v => ?_⟩
  exact hset _ _ (hr.store hj v) ((Ch.refl l u w).set_ (p := ⟨gr, or' + j, none⟩) g1 g2 _) (fun lo' hi' A' n' zs' ha ho => ho.far ha hj _)
theorem OwnR.at_ {w : World} {lo hi n k : Nat} {A : Option Addr} {zss : List (List Int)} (h : OwnR w lo hi A n zss) (hk : k < n) : ∃ g o, A = some ⟨g, o, none⟩ ∧ lo ≤ g ∧ g < hi := by
  obtain ⟨g, o, cs, R, M, C, e, h1, h2, _⟩ := h.2 (by omega)
  exact ⟨g, o, e, h1, h2⟩
theorem at_getD {zs : List Int} {j : Nat} (h : j < zs.length) : zs[j]? = some (zs.getD j 0) := by
  rw [List.getD_eq_getElem?_getD, List.getElem?_eq_getElem h]; rfl
/-- Two numbers of two rows are written. -/
theorem OwnR.put2 {w : World} {lo hi n k1 k2 : Nat} {A : Option Addr} {zss : List (List Int)} (h : OwnR w lo hi A n zss) (hk1 : k1 < n) (hk2 : k2 < n) (hne : k1 ≠ k2) {j1 j2 : Nat} (hj1 : j1 < (zss.getD k1 []).length) (hj2 : j2 < (zss.getD k2 []).length) :
    ∃ g o g1 o1 m1 c1 g2 o2 m2 c2, A = some ⟨g, o, none⟩ ∧ w.cell? ⟨g, o + k1, none⟩ = some (.slice (some ⟨g1, o1, none⟩) m1 c1) ∧ w.cell? ⟨g, o + k2, none⟩ = some (.slice (some ⟨g2, o2, none⟩) m2 c2) ∧
      (zss.getD k1 []).length = m1 ∧ (zss.getD k2 []).length = m2 ∧ g1 ≠ g2 ∧ g ≠ g1 ∧ g ≠ g2 ∧ lo ≤ g1 ∧ g1 < hi ∧ lo ≤ g2 ∧ g2 < hi ∧
      w.cell? ⟨g1, o1 + j1, none⟩ = some (.int .i64 (Ln.el zss k1 j1)) ∧ w.cell? ⟨g2, o2 + j2, none⟩ = some (.int .i64 (Ln.el zss k2 j2)) ∧ w.frozen? ⟨g1, o1 + j1, none⟩ = false ∧ w.frozen? ⟨g2, o2 + j2, none⟩ = false ∧
      ∀ v1 v2 : Int, OwnR ((w.setCell ⟨g1, o1 + j1, none⟩ (.int .i64 v1)).setCell ⟨g2, o2 + j2, none⟩ (.int .i64 v2)) lo hi A n ((zss.set k1 ((zss.getD k1 []).set j1 v1)).set k2 ((zss.getD k2 []).set j2 v2)) := by
  have hlen := h.1
  obtain ⟨g, o, cs, R, M, C, rfl, h1, h2, hg, hc, hr⟩ := h.2 (by omega)
  have q1 := hr.own k1 hk1
  have q2 := hr.own k2 hk2
  have l1 := q1.len
  have l2 := q2.len
  rw [l1] at hj1
  rw [l2] at hj2
  obtain ⟨g1, o1, cs1, e1, a1, b1, bk1, t1⟩ := q1.2 (by omega)
  obtain ⟨g2, o2, cs2, e2, a2, b2, bk2, t2⟩ := q2.2 (by omega)
  have hsep := hr.sep k1 k2 hk1 hk2 hne (by omega) (by omega) _ _ e1 e2
  have v1' := t1 j1 _ (at_getD (by omega))
  have v2' := t2 j2 _ (at_getD (by omega))
  have n1 := hg.ne bk1
  have n2 := hg.ne bk2
  refine ⟨g, o, g1, o1, M k1, C k1, g2, o2, M k2, C k2, rfl, by rw [hg.cell, hc k1 hk1, e1], by rw [hg.cell, hc k2 hk2, e2], l1, l2, hsep, n1, n2, a1, b1, a2, b2, ?_, ?_, bk1.frozen _, bk2.frozen _, fun v1 v2 => ?_⟩
  · rw [bk1.cell, v1']; rfl
  · rw [bk2.cell, v2']; rfl
  · have s1 : Own (w.setCell ⟨g1, o1 + j1, none⟩ (.int .i64 v1)) lo hi (R k1) (M k1) ((zss.getD k1 []).set j1 v1) := by
      rw [e1]; rw [e1] at q1; exact q1.store hj1 v1
    have s1' : Own ((w.setCell ⟨g1, o1 + j1, none⟩ (.int .i64 v1)).setCell ⟨g2, o2 + j2, none⟩ (.int .i64 v2)) lo hi (R k1) (M k1) ((zss.getD k1 []).set j1 v1) :=
      s1.far (g := g2) (o := o2) (n' := M k2) (by rw [e1]; intro x y x' y' ex ex'; injection ex with ex; injection ex with ex _; injection ex' with ex'; injection ex' with ex' _; subst ex; subst ex'; exact .inl (Ne.symm hsep)) hj2 _
    have f2 : Own (w.setCell ⟨g1, o1 + j1, none⟩ (.int .i64 v1)) lo hi (R k2) (M k2) (zss.getD k2 []) :=
      q2.far (g := g1) (o := o1) (n' := M k1) (by rw [e2]; intro x y x' y' ex ex'; injection ex with ex; injection ex with ex _; injection ex' with ex'; injection ex' with ex' _; subst ex; subst ex'; exact .inl hsep) hj1 _
    have s2 : Own ((w.setCell ⟨g1, o1 + j1, none⟩ (.int .i64 v1)).setCell ⟨g2, o2 + j2, none⟩ (.int .i64 v2)) lo hi (R k2) (M k2) ((zss.getD k2 []).set j2 v2) := by
      rw [e2]; rw [e2] at f2; exact f2.store hj2 v2
    refine ⟨by simp [hlen], fun hn => ⟨g, o, cs, R, M, C, rfl, h1, h2, ?_, hc, ⟨fun j hj => ?_, hr.cap, hr.sep⟩⟩⟩
    · have : Ch g1 (g1 + 1) w (w.setCell ⟨g1, o1 + j1, none⟩ (.int .i64 v1)) := (Ch.refl _ _ _).set_ (p := ⟨g1, o1 + j1, none⟩) (Nat.le_refl _) (by show g1 < g1 + 1; omega) _
      have hg1 := hg.ch this (by omega)
      have : Ch g2 (g2 + 1) (w.setCell ⟨g1, o1 + j1, none⟩ (.int .i64 v1)) ((w.setCell ⟨g1, o1 + j1, none⟩ (.int .i64 v1)).setCell ⟨g2, o2 + j2, none⟩ (.int .i64 v2)) := (Ch.refl _ _ _).set_ (p := ⟨g2, o2 + j2, none⟩) (Nat.le_refl _) (by show g2 < g2 + 1; omega) _
      exact hg1.ch this (by omega)
    · rw [getD_setR _ k2 j _ (by simp; omega)]
      by_cases c2 : k2 = j
      · subst c2
        rw [if_pos rfl]
        exact s2
      · rw [if_neg c2, getD_setR _ k1 j _ (by omega)]
        by_cases c1 : k1 = j
        · subst c1
          rw [if_pos rfl]
          exact s1'
        · rw [if_neg c1]
          rcases Nat.eq_zero_or_pos (M j) with h0 | hj0
          · exact ⟨(hr.own j hj).1, fun hh => absurd hh (by omega)⟩
          · have ap1 := hr.apart k1 j hk1 hj c1 (by omega) hj0
            have ap2 := hr.apart k2 j hk2 hj c2 (by omega) hj0
            rw [e1] at ap1
            rw [e2] at ap2
            exact ((hr.own j hj).far ap1 hj1 _).far ap2 hj2 _
end Go.Proofs.YtokdddkbpmcfgaaDoor.Wds
