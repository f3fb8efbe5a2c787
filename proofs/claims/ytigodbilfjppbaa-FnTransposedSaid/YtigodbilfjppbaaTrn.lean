/-
  Transposed rows: the code's and the model's function; one contract each.
-/
import Derived.Test.YtigodbilfjppbaaRowsW
import Derived.BigRegion
namespace Go.Proofs.Ytigodbilfjppbaa.Wds
open Go.RowKit
set_option linter.unusedVariables false

/-- Rows and a Bool are returned: all of them are new and share no cell. -/
def Ret1R (zss : List (List Int)) (ok : Bool) (w : World) (e : Ending) (w' : World) : Prop :=
  ∃ A n c, e = .returned (.tuple #[.slice A n c, .bool ok]) ∧ OwnR w' w.heap.size w'.heap.size A n zss ∧ Below w.heap.size w w'
/-- Rows and a Bool are returned, to be read. -/
def Read1R (zss : List (List Int)) (ok : Bool) (w : World) (e : Ending) (w' : World) : Prop :=
  ∃ A n c, e = .returned (.tuple #[.slice A n c, .bool ok]) ∧ RdR w' w'.heap.size A n zss ∧ Below w.heap.size w w'
theorem Ret1R.no {w w' : World} (hb : Below w.heap.size w w') : Ret1R Ln.noR.1 Ln.noR.2 w (.returned (.tuple #[.slice none 0 0, .bool false])) w' :=
  ⟨none, 0, 0, rfl, OwnR.nil _ _ _ _, hb⟩
theorem Read1R.no {w w' : World} (hb : Below w.heap.size w w') : Read1R Ln.noR.1 Ln.noR.2 w (.returned (.tuple #[.slice none 0 0, .bool false])) w' :=
  ⟨none, 0, 0, rfl, RdR.nil _ _ _, hb⟩
/-- One number of one row is written. -/
theorem OwnR.put {w : World} {lo hi n k : Nat} {A : Option Addr} {zss : List (List Int)} (h : OwnR w lo hi A n zss) (hk : k < n) {j : Nat} (hj : j < (zss.getD k []).length) :
    ∃ g o gr or' m c, A = some ⟨g, o, none⟩ ∧ w.cell? ⟨g, o + k, none⟩ = some (.slice (some ⟨gr, or', none⟩) m c) ∧ m ≤ c ∧ (zss.getD k []).length = m ∧ lo ≤ gr ∧ gr < hi ∧
      w.cell? ⟨gr, or' + j, none⟩ = some (.int .i64 ((zss.getD k []).getD j 0)) ∧ w.frozen? ⟨gr, or' + j, none⟩ = false ∧
      ∀ v : Int, OwnR (w.setCell ⟨gr, or' + j, none⟩ (.int .i64 v)) lo hi A n (zss.set k ((zss.getD k []).set j v)) := by
  obtain ⟨g, o, R, m, c, l, u, rfl, hc, hmc, hr, hlu, hset⟩ := h.row hk
  have hl := hr.len
  rw [hl] at hj
  obtain ⟨gr, or', rfl, h1, h2⟩ := hr.rd.at_ hj
  obtain ⟨hf, g1, g2, _⟩ := frozen_of hr hj rfl
  refine ⟨g, o, gr, or', m, c, rfl, hc, hmc, hl, by omega, by omega, h2, hf, fun v => ?_⟩
  exact hset _ _ (hr.store hj v) ((Ch.refl l u w).set_ (p := ⟨gr, or' + j, none⟩) g1 g2 _) (fun lo' hi' A' n' zs' ha ho => ho.far ha hj _)
theorem OwnR.at_ {w : World} {lo hi n k : Nat} {A : Option Addr} {zss : List (List Int)} (h : OwnR w lo hi A n zss) (hk : k < n) : ∃ g o, A = some ⟨g, o, none⟩ ∧ lo ≤ g ∧ g < hi := by
  obtain ⟨g, o, cs, R, M, C, e, h1, h2, _⟩ := h.2 (by omega)
  exact ⟨g, o, e, h1, h2⟩
theorem at_getD {zs : List Int} {j : Nat} (h : j < zs.length) : zs[j]? = some (zs.getD j 0) := by
  rw [List.getD_eq_getElem?_getD, List.getElem?_eq_getElem h]; rfl
/-- Two numbers of two rows are written. -/
theorem OwnR.put2 {w : World} {lo hi n k1 k2 : Nat} {A : Option Addr} {zss : List (List Int)} (h : OwnR w lo hi A n zss) (hk1 : k1 < n) (hk2 : k2 < n) (hne : k1 ≠ k2) {j1 j2 : Nat} (hj1 : j1 < (zss.getD k1 []).length) (hj2 : j2 < (zss.getD k2 []).length) :
    ∃ g o g1 o1 m1 c1 g2 o2 m2 c2, A = some ⟨g, o, none⟩ ∧ w.cell? ⟨g, o + k1, none⟩ = some (.slice (some ⟨g1, o1, none⟩) m1 c1) ∧ w.cell? ⟨g, o + k2, none⟩ = some (.slice (some ⟨g2, o2, none⟩) m2 c2) ∧
      (zss.getD k1 []).length = m1 ∧ (zss.getD k2 []).length = m2 ∧ g1 ≠ g2 ∧ g ≠ g1 ∧ g ≠ g2 ∧ lo ≤ g1 ∧ g1 < hi ∧ lo ≤ g2 ∧ g2 < hi ∧
      w.cell? ⟨g1, o1 + j1, none⟩ = some (.int .i64 (Ln.el zss k1 j1)) ∧ w.cell? ⟨g2, o2 + j2, none⟩ = some (.int .i64 (Ln.el zss k2 j2)) ∧ w.frozen? ⟨g1, o1 + j1, none⟩ = false ∧ w.frozen? ⟨g2, o2 + j2, none⟩ = false ∧
      ∀ v1 v2 : Int, OwnR ((w.setCell ⟨g1, o1 + j1, none⟩ (.int .i64 v1)).setCell ⟨g2, o2 + j2, none⟩ (.int .i64 v2)) lo hi A n ((zss.set k1 ((zss.getD k1 []).set j1 v1)).set k2 ((zss.getD k2 []).set j2 v2)) := by
  have hlen := h.1
  obtain ⟨g, o, cs, R, M, C, rfl, h1, h2, hg, hc, hr⟩ := h.2 (by omega)
  have q1 := hr.own k1 hk1
  have q2 := hr.own k2 hk2
  have l1 := q1.len
  have l2 := q2.len
  rw [l1] at hj1
  rw [l2] at hj2
  obtain ⟨g1, o1, cs1, e1, a1, b1, bk1, t1⟩ := q1.2 (by omega)
  obtain ⟨g2, o2, cs2, e2, a2, b2, bk2, t2⟩ := q2.2 (by omega)
  have hsep := hr.sep k1 k2 hk1 hk2 hne (by omega) (by omega) _ _ e1 e2
  have v1' := t1 j1 _ (at_getD (by omega))
  have v2' := t2 j2 _ (at_getD (by omega))
  have n1 := hg.ne bk1
  have n2 := hg.ne bk2
  refine ⟨g, o, g1, o1, M k1, C k1, g2, o2, M k2, C k2, rfl, by rw [hg.cell, hc k1 hk1, e1], by rw [hg.cell, hc k2 hk2, e2], l1, l2, hsep, n1, n2, a1, b1, a2, b2, ?_, ?_, bk1.frozen _, bk2.frozen _, fun v1 v2 => ?_⟩
  · rw [bk1.cell, v1']; rfl
  · rw [bk2.cell, v2']; rfl
  · have s1 : Own (w.setCell ⟨g1, o1 + j1, none⟩ (.int .i64 v1)) lo hi (R k1) (M k1) ((zss.getD k1 []).set j1 v1) := by
      rw [e1]; rw [e1] at q1; exact q1.store hj1 v1
    have s1' : Own ((w.setCell ⟨g1, o1 + j1, none⟩ (.int .i64 v1)).setCell ⟨g2, o2 + j2, none⟩ (.int .i64 v2)) lo hi (R k1) (M k1) ((zss.getD k1 []).set j1 v1) :=
      s1.far (g := g2) (o := o2) (n' := M k2) (by rw [e1]; intro x y x' y' ex ex'; injection ex with ex; injection ex with ex _; injection ex' with ex'; injection ex' with ex' _; subst ex; subst ex'; exact .inl (Ne.symm hsep)) hj2 _
    have f2 : Own (w.setCell ⟨g1, o1 + j1, none⟩ (.int .i64 v1)) lo hi (R k2) (M k2) (zss.getD k2 []) :=
      q2.far (g := g1) (o := o1) (n' := M k1) (by rw [e2]; intro x y x' y' ex ex'; injection ex with ex; injection ex with ex _; injection ex' with ex'; injection ex' with ex' _; subst ex; subst ex'; exact .inl hsep) hj1 _
    have s2 : Own ((w.setCell ⟨g1, o1 + j1, none⟩ (.int .i64 v1)).setCell ⟨g2, o2 + j2, none⟩ (.int .i64 v2)) lo hi (R k2) (M k2) ((zss.getD k2 []).set j2 v2) := by
      rw [e2]; rw [e2] at f2; exact f2.store hj2 v2
    refine ⟨by simp [hlen], fun hn => ⟨g, o, cs, R, M, C, rfl, h1, h2, ?_, hc, ⟨fun j hj => ?_, hr.cap, hr.sep⟩⟩⟩
    · have : Ch g1 (g1 + 1) w (w.setCell ⟨g1, o1 + j1, none⟩ (.int .i64 v1)) := (Ch.refl _ _ _).set_ (p := ⟨g1, o1 + j1, none⟩) (Nat.le_refl _) (by show g1 < g1 + 1; omega) _
      have hg1 := hg.ch this (by omega)
      have : Ch g2 (g2 + 1) (w.setCell ⟨g1, o1 + j1, none⟩ (.int .i64 v1)) ((w.setCell ⟨g1, o1 + j1, none⟩ (.int .i64 v1)).setCell ⟨g2, o2 + j2, none⟩ (.int .i64 v2)) := (Ch.refl _ _ _).set_ (p := ⟨g2, o2 + j2, none⟩) (Nat.le_refl _) (by show g2 < g2 + 1; omega) _
      exact hg1.ch this (by omega)
    · rw [getD_setR _ k2 j _ (by simp; omega)]
      by_cases c2 : k2 = j
      · subst c2
        rw [if_pos rfl]
        exact s2
      · rw [if_neg c2, getD_setR _ k1 j _ (by omega)]
        by_cases c1 : k1 = j
        · subst c1
          rw [if_pos rfl]
          exact s1'
        · rw [if_neg c1]
          rcases Nat.eq_zero_or_pos (M j) with h0 | hj0
          · exact ⟨(hr.own j hj).1, fun hh => absurd hh (by omega)⟩
          · have ap1 := hr.apart k1 j hk1 hj c1 (by omega) hj0
            have ap2 := hr.apart k2 j hk2 hj c2 (by omega) hj0
            rw [e1] at ap1
            rw [e2] at ap2
            exact ((hr.own j hj).far ap1 hj1 _).far ap2 hj2 _
/-- The relation of the inner loop: the column i as far as it is filled. -/
def FillCol (zss : List (List Int)) (i n g : Nat) (w : World) (kv : Value) (wr : World) : Prop :=
  ∃ k : Nat, k ≤ n ∧ kv = .int .i64 k ∧ OwnR wr w.heap.size wr.heap.size (some ⟨g, 0, none⟩) n ((Ln.fillR (Ln.trL zss) i).set i (Ln.fill (fun k => Ln.el zss k i) n k)) ∧ Below w.heap.size w wr
theorem FillCol.drew {zss : List (List Int)} {i n g : Nat} {w wr : World} {kv : Value} (h : FillCol zss i n g w kv wr) : FillCol zss i n g w kv wr.drew := by
  obtain ⟨k, h1, h2, h3, h4⟩ := h
  exact ⟨k, h1, h2, h3.below (Below.refl _ _).drew, h4.drew⟩
theorem FillCol.start {zss : List (List Int)} {i n g : Nat} {w wr : World} (hn : zss.length = n) (hi : i < n) (hown : OwnR wr w.heap.size wr.heap.size (some ⟨g, 0, none⟩) n (Ln.fillR (Ln.trL zss) i)) (hb : Below w.heap.size w wr) :
    FillCol zss i n g w (.int .i64 0) ((wr.setCell ⟨g, i, none⟩ (.slice (some ⟨wr.heap.size, 0, none⟩) n n)).alloc (.cells (Array.replicate n (Value.int .i64 0)) 2)) := by
  have hgs : g < wr.heap.size := by
    obtain ⟨g', o', e, h1, h2⟩ := hown.at_ hi
    injection e with e
    injection e with e1 e2
    omega
  rw [← World.setCell_alloc_past _ _ _ _ hgs]
  have hb1 : Below wr.heap.size wr (wr.alloc (.cells (Array.replicate n (Value.int .i64 0)) 2)) := (Below.refl _ _).alloc (Nat.le_refl _) _
  have ho := Own.of_blk (n := n) (zs := List.replicate n 0) (w := wr.alloc (.cells (Array.replicate n (Value.int .i64 0)) 2)) (g := wr.heap.size) (by rw [← clls_zero]; exact Blk.new _ _) (by simp) (Nat.le_refl _)
  refine ⟨0, Nat.zero_le _, rfl, ?_, ?_⟩
  · have h1 := (hown.below hb1).store (k := i) hi ho (Nat.le_refl _) hb1.size (Nat.le_refl _) (Nat.le_refl _)
    rw [Nat.zero_add] at h1
    rw [Ln.fill_zero, size_set]
    exact h1
  · obtain ⟨g', o', e, h1, h2⟩ := hown.at_ hi
    injection e with e
    injection e with e1 e2
    subst e1
    exact (hb.alloc hb.size _).setCell (p := ⟨g, i, none⟩) h1 _
set_option maxHeartbeats 2000000 in
set_option maxRecDepth 100000 in
theorem iTransposeLanes_any (b : Int) (A : Option Addr) (n c0 : Nat) (zss : List (List Int)) (B : Nat) (w : World) (hn : Ln.totL zss ≤ 1048576) (h : RdR w B A n zss) :
    Calls Try.prog 9 #[.int .i64 b, .slice A n c0] w (Ret1R (Ln.transpose b zss).1 (Ln.transpose b zss).2 w) := by
  obtain ⟨i0, hi0, hz0, hz1, hz2⟩ := info_parts A_infoR
  obtain ⟨j0, hj0, y0, y1, y2⟩ := info_parts A_info64
  have k1 := areRows_any b A n c0 zss B w hn h
  unfold Ln.transpose
  have hok := fun (h : Ln.rowsOk b zss = true) => Ln.rowsOk_at h
  obtain ⟨u, hu⟩ : ∃ u, u = Ln.rowsOk b zss := ⟨_, rfl⟩
  rw [← hu] at k1 hok ⊢
  have C1 := Lib.hid k1
  cases u
  · clear k1 hok hu hn h
    go_enter Try.func9, Try.ntmps9
    go_wp2_with fail
    refine C1.out.mono ?_
    rintro e w1 ⟨rfl, hb⟩
    have HB := Lib.hid hb; clear hb
    go_wp2_with fail
    go_ret2
    exact Ret1R.no HB.out
  · obtain ⟨hl1, hl2, hrow⟩ := hok rfl
    have hl := h.len
    have hnn : n ≤ 16 := by have := Ln.lanes_cases hl1; omega
    rw [hl] at hrow
    have HROW := Lib.hid hrow
    have HL := Lib.hid hl
    have HTL := Lib.hid (show (Ln.trL zss).length = n by rw [Ln.trL_len]; exact hl)
    have H := Lib.hid h
    clear k1 hok hu hn h hl1 hl2 hrow hl
    go_enter Try.func9, Try.ntmps9
    go_wp2_with fail
    refine C1.out.mono ?_
    rintro e w1 ⟨rfl, hb⟩
    have HB1 := Lib.hid hb; clear hb
    go_wp2_with (refine wpList_make_rows _ rfl _ _ _ rfl i0 Try.underlying25 hi0 hz0 hz1 hz2 _ _ _ _ n rfl rfl rfl rfl (by omega) ?_)
    go_loopw [19] (fun i wr => FillsR (Ln.trL zss) n w1.heap.size w1 i wr) (fun i _ => n - (intOf i).toNat)
    case atStart => exact FillsR.start HTL.out (Below.refl _ _)
    case round =>
      rename World => wo
      obtain ⟨i, hi, rfl, hown, hb⟩ := hrel
      by_cases hlt : i < n
      · have HO := Lib.hid hown
        have HB := Lib.hid hb
        have hb2 : Below wo.heap.size wo (wo.alloc (.cells (Array.replicate n (Value.int .i64 0)) 2)) := (Below.refl _ _).alloc (Nat.le_refl _) _
        obtain ⟨⟨v0, hv0⟩, hf, _, _⟩ := (hown.below hb2).place hlt
        rw [Nat.zero_add] at hv0 hf
        have HS := Lib.hid (FillCol.start HL.out hlt hown hb)
        have i1 : (0 : Int) ≤ (i : Int) := by omega
        have i2 : (i : Int) < (n : Int) := by omega
        clear hown hb hb2
        go_wp2_with (refine wpList_make_blk _ rfl _ _ _ rfl j0 Try.underlying26 hj0 y0 y1 y2 _ _ _ _ n rfl rfl rfl rfl (by omega) ?_)
        go_loopw [30] (fun kv wr => FillCol zss i n w1.heap.size w1 kv wr) (fun kv _ => n - (intOf kv).toNat)
        case atStart => exact HS.out
        case round =>
          rename World => wi
          obtain ⟨k, hk, rfl, hown, hb⟩ := hrel
          by_cases hlk : k < n
          · obtain ⟨g1, o1, R, m1, c1, hA, hg1, hc1, _, hr1⟩ := ((H.out.below HB1.out).below hb).at_ hlk
            have hm1 := hr1.len
            rw [(HROW.out k hlk).1] at hm1
            subst hm1
            obtain ⟨g2, o2, rfl, hg2, hc2⟩ := hr1.at_ hlt
            subst hA
            have hlen : (Ln.fillR (Ln.trL zss) i).length = n := by rw [Ln.fillR_len _ _ (by rw [HTL.out]; exact hi), HTL.out]
            obtain ⟨g, o, gr, or', m, c, e, hcell, hmc, hml, hlo, hhi, hv1, hf1, hput⟩ := hown.put (k := i) (j := k) hlt (by rw [getD_setR _ _ _ _ (by rw [hlen]; exact hlt), if_pos rfl, Ln.fill_len _ _ _ hk]; exact hlk)
            injection e with e
            injection e with e1 e2
            subst e1; subst e2
            rw [getD_setR _ _ _ _ (by rw [hlen]; exact hlt), if_pos rfl] at hml hput hv1
            rw [Ln.fill_len _ _ _ hk] at hml
            subst hml
            rw [Nat.zero_add] at hcell
            obtain ⟨z, hz⟩ : ∃ z, z = Ln.el zss k i := ⟨_, rfl⟩
            rw [show (zss.getD k []).getD i 0 = z from hz.symm] at hc2
            have HN := Lib.hid (show FillCol zss i n w1.heap.size w1 (.int .i64 (k + 1 : Nat)) (wi.setCell ⟨gr, or' + k, none⟩ (.int .i64 z)) by
              have h1 := hput z
              rw [List.set_set, hz, Ln.fill_set (fun k => Ln.el zss k i) n k hlk] at h1
              refine ⟨k + 1, by omega, rfl, ?_, hb.setCell (p := ⟨gr, or' + k, none⟩) hlo _⟩
              rw [size_set, hz]
              exact h1)
            generalize (Ln.fill (fun k => Ln.el zss k i) n k).getD k 0 = old at hv1
            have k1 : (0 : Int) ≤ (k : Int) := by omega
            have k2 : (k : Int) < (n : Int) := by omega
            clear hz hput hown hb hlen hr1
            go_wp2_with fail
            go_region
            go_wp2
            go_roundw
            case rel => exact HN.out.drew
            case measure => simp [intOf]; omega
          · have hkn : k = n := by omega
            have hlen : (Ln.fillR (Ln.trL zss) i).length = n := by rw [Ln.fillR_len _ _ (by rw [HTL.out]; exact hi), HTL.out]
            have e : (Ln.fillR (Ln.trL zss) i).set i (Ln.fill (fun k => Ln.el zss k i) n k) = Ln.fillR (Ln.trL zss) (i + 1) := by
              rw [hkn, Ln.fill_all, ← Ln.fillR_set _ i (by rw [HTL.out]; exact hlt), Ln.trL_at zss i (by rw [HL.out]; exact hlt), Ln.colL, HL.out]
            rw [e] at hown
            have HF := Lib.hid (show FillsR (Ln.trL zss) n w1.heap.size w1 (.int .i64 (i + 1 : Nat)) wi from ⟨i + 1, by omega, rfl, hown, hb⟩)
            clear e hlen hown hb
            go_wp2
            go_roundw
            case rel => exact HF.out
            case measure => simp [intOf]; omega
      · have hkn : i = n := by omega
        have HF := Lib.hid (And.intro hown (And.intro hb hkn))
        clear hown hb hkn
        go_wp2
        go_ret2
        obtain ⟨hown, hb, rfl⟩ := HF.out
        rw [show Ln.fillR (Ln.trL zss) i = Ln.trL zss by rw [← HTL.out]; exact Ln.fillR_all _] at hown
        exact ⟨_, i, i, rfl, hown.more HB1.out.size (Nat.le_refl _), HB1.out.trans (hb.mono HB1.out.size)⟩
end Go.Proofs.Ytigodbilfjppbaa.Wds
