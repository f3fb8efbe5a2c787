/-
  The library's stable sort of few numbers, with the code's comparison of ranges: by their starts, and the first of several first. One contract each.
-/
import Derived.Test.YtfmplneopmbfoaaDoorCmpC
import Derived.Test.YtfmplneopmbfoaaDoorWidth
import Derived.Test.YtfmplneopmbfoaaDoorArM
import Derived.BigRegion
import Derived.Shelf.RegionOpenPlain
namespace Go.Proofs.YtfmplneopmbfoaaDoor.Wds
open Go.RowKit
set_option linter.unusedVariables false

/-- Places, as numbers of the program. -/
def ints (l : List Nat) : List Int := l.map Int.ofNat
theorem ints_len (l : List Nat) : (ints l).length = l.length := by simp [ints]
theorem ints_at (l : List Nat) (k : Nat) : (ints l).getD k 0 = (l.getD k 0 : Nat) := by
  rw [ints, List.getD_eq_getElem?_getD, List.getD_eq_getElem?_getD, List.getElem?_map]
  cases l[k]? <;> rfl
theorem ints_set (l : List Nat) (k v : Nat) : (ints l).set k (v : Int) = ints (l.set k v) := by
  unfold ints; rw [List.map_set]; rfl
theorem cmp_neg (x y : Int) : decide (Sp.cmpI x y < 0) = decide (x < y) := by
  unfold Sp.cmpI
  by_cases h : x < y
  · rw [if_pos h, decide_eq_true h]; rfl
  · rw [if_neg h]
    by_cases h2 : y < x
    · rw [if_pos h2, decide_eq_false h]; rfl
    · rw [if_neg h2, decide_eq_false h]; rfl
set_option maxHeartbeats 1000000 in
theorem byFrom_any (gR : Nat) (A : Option Addr) (n c : Nat) (ss : List Rg.R) (B a b : Nat) (w : World) (ha : a < n) (hb : b < n) (hc : w.cell? ⟨gR, 0, none⟩ = some (.slice A n c)) (h : RdG w B A n ss) :
    Calls Tryd.prog 32 #[.int .i64 (a : Int), .int .i64 (b : Int), .pointer (some ⟨gR, 0, none⟩)] w fun e w' => e = .returned (.int .i64 (Sp.cmpI (Ar.fr ss a) (Ar.fr ss b))) ∧ Below w.heap.size w w' := by
  obtain ⟨g, o, rfl, _, c0, _⟩ := h.at_ ha
  obtain ⟨g', o', e', _, q0, _⟩ := h.at_ hb
  injection e' with e'; injection e' with e1 e2; subst e1; subst e2
  unfold Ar.fr
  obtain ⟨x, hx⟩ : ∃ x, x = (Rg.nth ss a).f := ⟨_, rfl⟩
  obtain ⟨y, hy⟩ : ∃ x, x = (Rg.nth ss b).f := ⟨_, rfl⟩
  rw [← hx] at c0
  rw [← hy] at q0
  rw [← hx, ← hy]
  have d0 := BelBy.cell hc
  have d1 := BelBy.cell c0
  have d2 := BelBy.cell q0
  have CC := Lib.hid (fun (p : BelBy w) => calls_bel ((cmpI_any x y p.W).mono fun e w' hh => (⟨hh.1, by rw [← hh.2]; exact Below.refl _ _⟩ : e = .returned (.int .i64 (Sp.cmpI x y)) ∧ Below p.W.heap.size p.W w')))
  have i0 : (0 : Int) ≤ (a : Int) := by omega
  have i1 : (a : Int) < (n : Int) := by omega
  have i2 : (0 : Int) ≤ (b : Int) := by omega
  have i3 : (b : Int) < (n : Int) := by omega
  clear hx hy hc c0 q0 h
  go_enter Tryd.func32, Tryd.ntmps32
  go_wp2
  refine wp_region_quiet_bel (by kernel_rfl) (by kernel_rfl) ?_
  repeat (go_big_quiet_step (first | (go_at_call 33; exact CC.out _)))
  refine wpQuiet_nil ?_
  rintro wq ⟨⟨_, hwq⟩, rfl⟩
  go_wp2
  go_ret
  exact ⟨rfl, hwq⟩
theorem Own.parts {w : World} {lo hi n k g o : Nat} {zs : List Int} (h : Own w lo hi (some ⟨g, o, none⟩) n zs) (hk : k < n) : w.cell? ⟨g, o + k, none⟩ = some (.int .i64 (zs.getD k 0)) ∧ w.frozen? ⟨g, o + k, none⟩ = false ∧ lo ≤ g ∧ g < hi := by
  obtain ⟨g', o', e, _, hc⟩ := h.rd.at_ hk
  injection e with e; injection e with e1 e2; subst e1; subst e2
  obtain ⟨g', o', cs, e, h1, h2, hb, _⟩ := h.2 (by omega)
  injection e with e; injection e with e1 e2; subst e1; subst e2
  exact ⟨hc, hb.frozen _, h1, h2⟩
set_option maxRecDepth 100000 in
set_option maxHeartbeats 4000000 in
theorem insSort_any (gR : Nat) (A : Option Addr) (n c : Nat) (ss : List Rg.R) (A' : Option Addr) (c' lo hi : Nat) (w : World) (hn : n ≤ 12) (hl : ss.length = n) (hlo : lo ≤ w.heap.size) (hc : w.cell? ⟨gR, 0, none⟩ = some (.slice A n c)) (hgR : gR < lo) (h : RdG w lo A n ss) (ho : Own w lo hi A' n (ints (List.range n))) :
    Calls Tryd.prog 66 #[.slice A' n c', .int .i64 0, .int .i64 (n : Int), .func (.func 32) #[] #[.pointer (some ⟨gR, 0, none⟩)]] w fun e w' => e = .returned (.tuple #[]) ∧ Own w' lo hi A' n (ints (Ar.ord ss n)) ∧ Below lo w w' := by
  have H := Lib.hid h
  have HC := Lib.hid hc
  have HO := Lib.hid ho
  clear h hc ho
  by_cases h0 : n = 0
  · subst h0
    have HF := Lib.hid (show Own w lo hi A' 0 (ints (Ar.ord ss 0)) from HO.out)
    go_enter Tryd.func66, Tryd.ntmps66
    go_wp2
    go_loopw [8] (fun i wr => i = .int .i64 1 ∧ w = wr) (fun i _ => 0)
    case atStart => exact ⟨rfl, rfl⟩
    case round =>
      obtain ⟨rfl, rfl⟩ := hrel
      go_wp2
      go_end0
      exact ⟨rfl, HF.out, Below.refl _ _⟩
  · have h1 : 1 ≤ n := by omega
    have HL := Lib.hid hl
    clear h0 hl
    go_enter Tryd.func66, Tryd.ntmps66
    go_wp2
    go_loopw [8] (fun v wr => ∃ i : Nat, 1 ≤ i ∧ i ≤ n ∧ v = .int .i64 i ∧ Own wr lo hi A' n (ints (Ar.beg ss n i)) ∧ Below lo w wr) (fun v _ => n - (intOf v).toNat)
    case atStart => exact ⟨1, Nat.le_refl _, h1, rfl, by rw [Ar.beg_one ss (by omega)]; exact HO.out, Below.refl _ _⟩
    case round =>
      rename World => wo
      obtain ⟨i, hi1, hin, rfl, hown, hb⟩ := hrel
      by_cases hlt : i < n
      · rw [Ar.beg_mid ss hlt] at hown
        have HOW := Lib.hid hown
        have HB := Lib.hid hb
        clear hown hb
        have k1 : (i : Int) < (n : Int) := by omega
        go_wp2
        go_loopw [9] (fun v wr => ∃ j : Nat, j ≤ i ∧ v = .int .i64 j ∧ Own wr lo hi A' n (ints (Ar.mid ss n i j)) ∧ Hid (∀ y ∈ (Ar.ord ss i).drop j, Ar.fr ss i < Ar.fr ss y) ∧ Below lo w wr) (fun v _ => (intOf v).toNat)
        case atStart => exact ⟨i, Nat.le_refl _, rfl, HOW.out, Lib.hid (fun y hy => by rw [List.drop_of_length_le (by rw [Ar.ord_len]; exact Nat.le_refl _)] at hy; cases hy), HB.out⟩
        case round =>
          rename World => wr
          obtain ⟨j, hji, rfl, hown, HD, hb⟩ := hrel
          have fin : (j = 0 ∨ ¬ Ar.fr ss i < Ar.fr ss ((Ar.ord ss i).getD (j - 1) 0)) → Ar.mid ss n i j = Ar.beg ss n (i + 1) := fun hs => Ar.mid_beg ss hlt hji HD.out hs
          have FIN := Lib.hid fin; clear fin
          by_cases hj0 : j = 0
          · have hm := FIN.out (.inl hj0)
            rw [hm] at hown
            have HO2 := Lib.hid hown
            have HB2 := Lib.hid hb
            clear hown hb hm
            subst hj0
            go_wp2
            refine wp_region_quiet_bel (by kernel_rfl) (by kernel_rfl) ?_
            repeat (go_big_quiet_step (fail))
            refine wpQuiet_nil ?_
            rintro wq ⟨⟨_, hwq⟩, rfl⟩
            have HO3 := Lib.hid (HO2.out.below hwq)
            have HB3 := Lib.hid (HB2.out.trans (hwq.mono (Nat.le_trans hlo HB2.out.size))); clear hwq
            go_wp2
            go_roundw
            case rel => exact ⟨i + 1, by omega, by omega, by go_num, HO3.out, HB3.out⟩
            case measure => simp [intOf]; omega
          · obtain ⟨q, rfl⟩ : ∃ q, j = q + 1 := ⟨j - 1, by omega⟩
            obtain ⟨g, o, e', _, _⟩ := hown.rd.at_ (k := q) (by omega)
            subst e'
            obtain ⟨ca, fa, hlg, hhg⟩ := hown.parts (k := q + 1) (by omega)
            obtain ⟨cb, fb, _, _⟩ := hown.parts (k := q) (by omega)
            rw [ints_at, Ar.mid_j ss hji] at ca
            have hy1 := Ar.mid_j1 ss (n := n) (i := i) (j := q + 1) (by omega) hji
            rw [show q + 1 - 1 = q by omega] at hy1
            rw [ints_at, hy1] at cb
            have hsw := Ar.mid_swap ss (n := n) (i := i) (j := q + 1) hlt (by omega) hji
            rw [show q + 1 - 1 = q by omega] at hsw
            have hyi : (Ar.ord ss i).getD q 0 < i := Ar.ord_at_lt (by omega)
            have HDL := Lib.hid (fun h2 => Ar.drop_lt (rs := ss) (i := i) (j := q + 1) (by omega) hji HD.out h2)
            have FIN2 := Lib.hid (fun h2 => FIN.out (.inr h2))
            rw [show q + 1 - 1 = q by omega] at HDL FIN2
            obtain ⟨y, hyy⟩ : ∃ y, y = (Ar.ord ss i).getD q 0 := ⟨_, rfl⟩
            rw [← hyy] at cb hsw hyi HDL FIN2
            have HYQ := Lib.hid (show (Ar.mid ss n i (q + 1)).getD q 0 = y by rw [hy1, hyy])
            have CL := Lib.hid (fun (p : BelBy wr) => calls_bel (byFrom_any gR A n c ss lo i y p.W hlt (by omega) ((p.h.cell (p := ⟨gR, 0, none⟩) (by have := hb.size; have := World.block_lt_of_cell? w _ HC.out; show gR < wr.heap.size; have h3 : gR < w.heap.size := this; omega)).trans ((hb.cell (p := ⟨gR, 0, none⟩) hgR).trans HC.out)) ((H.out.belowB hb (Nat.le_refl _)).below p.h)))
            have hbs : lo ≤ wr.heap.size := Nat.le_trans hlo hb.size
            have HB2 := Lib.hid hb
            have HO2 := Lib.hid hown
            have HSW := Lib.hid hsw
            have e1 : ((q + 1 : Nat) : Int) = (q : Int) + 1 := by omega
            clear hown hb hsw hyy
            have d1 : ∀ p : BelBy wr, p.W.cell? ⟨g, o + (q + 1), none⟩ = some (.int .i64 (i : Int)) := BelBy.cell ca
            have d2 : ∀ p : BelBy wr, p.W.cell? ⟨g, o + q, none⟩ = some (.int .i64 (y : Int)) := BelBy.cell cb
            have i0 : (0 : Int) ≤ (q : Int) := by omega
            have i2 : (q : Int) + 1 < (n : Int) := by omega
            have i3 : (q : Int) < (n : Int) := by omega
            have s1 : IntKind.i64.wrap ((q : Int) + 1 - 1) = (q : Int) := by rw [IntWalk.i64_in _ (by omega)]; omega
            have s2 : (q : Int) + 1 - 1 = (q : Int) := by omega
            have s3 : ((q : Int) + 1).toNat = q + 1 := by omega
            have hcn := cmp_neg (Ar.fr ss i) (Ar.fr ss y)
            obtain ⟨z, hz⟩ : ∃ z, z = Sp.cmpI (Ar.fr ss i) (Ar.fr ss y) := ⟨_, rfl⟩
            rw [← hz] at CL hcn
            clear hz ca cb fa fb
            rw [e1]
            clear e1
            by_cases hlt2 : Ar.fr ss i < Ar.fr ss y
            · rw [decide_eq_true hlt2] at hcn
              have HDN := Lib.hid (HDL.out hlt2)
              clear hlt2
              go_wp2
              refine wp_region_quiet_bel (by kernel_rfl) (by kernel_rfl) ?_
              repeat (go_big_quiet_step (first | (go_at_call 32; exact CL.out _)))
              refine wpQuiet_nil ?_
              rintro wq ⟨⟨_, hwq⟩, rfl⟩
              have HO3 := Lib.hid (HO2.out.below hwq)
              have HB3 := Lib.hid (HB2.out.trans (hwq.mono hbs))
              clear d1 d2 hwq
              obtain ⟨ca, fa, hlg', _⟩ := HO3.out.parts (k := q + 1) (by omega)
              obtain ⟨cb, fb, _, _⟩ := HO3.out.parts (k := q) (by omega)
              rw [ints_at, Ar.mid_j ss hji] at ca
              rw [ints_at, HYQ.out] at cb
              have st1 := HO3.out.store (k := q + 1) (by omega) (y : Int)
              obtain ⟨cc, fc, _, _⟩ := st1.parts (k := q) (by omega)
              have st2 := st1.store (k := q) (by omega) (i : Int)
              rw [ints_set, ints_set, HSW.out] at st2
              obtain ⟨u, hu⟩ : ∃ u, u = ((ints (Ar.mid ss n i (q + 1))).set (q + 1) (y : Int)).getD q 0 := ⟨_, rfl⟩
              rw [← hu] at cc
              have HST := Lib.hid st2
              clear st1 st2 hu
              go_wp2_with fail
              have mixed : Tryd.prog.follows Departure.mixedOrders = true := by kernel_rfl
              go_big_region_o
              clear mixed
              have HO4 := Lib.hid (show Own (((wq.setCell ⟨g, o + (q + 1), none⟩ (.int .i64 (y : Int))).setCell ⟨g, o + q, none⟩ (.int .i64 (i : Int))).drew) lo hi (some ⟨g, o, none⟩) n (ints (Ar.mid ss n i q)) from HST.out)
              have HB4 := Lib.hid (((HB3.out.setCell (p := ⟨g, o + (q + 1), none⟩) hlg (.int .i64 (y : Int))).setCell (p := ⟨g, o + q, none⟩) hlg (.int .i64 (i : Int))).drew)
              clear ca cb cc fa fb fc HST
              generalize ((wq.setCell ⟨g, o + (q + 1), none⟩ (.int .i64 (y : Int))).setCell ⟨g, o + q, none⟩ (.int .i64 (i : Int))).drew = w5 at HO4 HB4 ⊢
              go_wp2
              go_roundw
              case rel => exact ⟨q, by omega, by go_num, HO4.out, HDN, HB4.out⟩
              case measure => simp [intOf] <;> omega
            · have HFN := Lib.hid (FIN2.out hlt2)
              rw [decide_eq_false hlt2] at hcn
              clear hlt2
              go_wp2
              refine wp_region_quiet_bel (by kernel_rfl) (by kernel_rfl) ?_
              repeat (go_big_quiet_step (first | (go_at_call 32; exact CL.out _)))
              refine wpQuiet_nil ?_
              rintro wq ⟨⟨_, hwq⟩, rfl⟩
              have HO3 := Lib.hid (HO2.out.below hwq)
              have HB3 := Lib.hid (HB2.out.trans (hwq.mono hbs))
              clear d1 d2 hwq
              go_wp2
              go_roundw
              case rel => exact ⟨i + 1, by omega, by omega, by go_num, by rw [← HFN.out]; exact HO3.out, HB3.out⟩
              case measure => simp [intOf]; omega
      · have hkn : i = n := by omega
        subst hkn
        rw [Ar.beg_all] at hown
        have HOW := Lib.hid hown
        have HB := Lib.hid hb
        clear hown hb
        go_wp2
        go_end0
        exact ⟨rfl, HOW.out, HB.out⟩
set_option maxRecDepth 100000 in
set_option maxHeartbeats 4000000 in
theorem stabC_any (gR : Nat) (A : Option Addr) (n c : Nat) (ss : List Rg.R) (A' : Option Addr) (c' lo hi : Nat) (w : World) (hn : n ≤ 12) (hl : ss.length = n) (hlo : lo ≤ w.heap.size) (hc : w.cell? ⟨gR, 0, none⟩ = some (.slice A n c)) (hgR : gR < lo) (h : RdG w lo A n ss) (ho : Own w lo hi A' n (ints (List.range n))) :
    Calls Tryd.prog 56 #[.slice A' n c', .int .i64 (n : Int), .func (.func 32) #[] #[.pointer (some ⟨gR, 0, none⟩)]] w fun e w' => e = .returned (.tuple #[]) ∧ Own w' lo hi A' n (ints (Ar.ord ss n)) ∧ Below lo w w' := by
  have C := Lib.hid (insSort_any gR A n c ss A' c' lo hi w hn hl hlo hc hgR h ho)
  clear hl hc h ho
  go_enter Tryd.func56, Tryd.ntmps56
  go_wp2
  go_loopw [7, 8] (fun a b wr => a = .int .i64 0 ∧ b = .int .i64 20 ∧ w = wr) (fun _ _ _ => 0)
  case atStart => exact ⟨rfl, rfl, rfl⟩
  case round =>
    obtain ⟨rfl, rfl, rfl⟩ := hrel
    have i1 : ¬ (20 : Int) ≤ (n : Int) := by omega
    have i2 : ¬ (20 : Int) < (n : Int) := by omega
    go_wp2_with fail
    refine C.out.mono ?_
    rintro e w1 ⟨rfl, ho, hb⟩
    have HO := Lib.hid ho
    have HB := Lib.hid hb
    clear ho hb
    go_wp2
    go_loopw [6] (fun a wr => a = .int .i64 20 ∧ w1 = wr) (fun _ _ => 0)
    case atStart => exact ⟨rfl, rfl⟩
    case round =>
      obtain ⟨rfl, rfl⟩ := hrel
      go_wp2
      go_end0
      exact ⟨rfl, HO.out, HB.out⟩
theorem stabS_any (gR : Nat) (A : Option Addr) (n c : Nat) (ss : List Rg.R) (A' : Option Addr) (c' lo hi : Nat) (w : World) (hn : n ≤ 12) (hl : ss.length = n) (hlo : lo ≤ w.heap.size) (hc : w.cell? ⟨gR, 0, none⟩ = some (.slice A n c)) (hgR : gR < lo) (h : RdG w lo A n ss) (ho : Own w lo hi A' n (ints (List.range n))) :
    Calls Tryd.prog 31 #[.slice A' n c', .func (.func 32) #[] #[.pointer (some ⟨gR, 0, none⟩)]] w fun e w' => e = .returned (.tuple #[]) ∧ Own w' lo hi A' n (ints (Ar.ord ss n)) ∧ Below lo w w' := by
  have C := Lib.hid (stabC_any gR A n c ss A' c' lo hi w hn hl hlo hc hgR h ho)
  clear hl hc h ho
  go_enter Tryd.func31, Tryd.ntmps31
  go_wp2_with fail
  refine C.out.mono ?_
  rintro e w1 ⟨rfl, ho, hb⟩
  have HO := Lib.hid ho
  have HB := Lib.hid hb
  clear ho hb
  go_wp2
  go_end0
  exact ⟨rfl, HO.out, HB.out⟩
end Go.Proofs.YtfmplneopmbfoaaDoor.Wds
