/-
  The width of ranges: the crowds, the greatest one: the code's functions and the model's, one contract each.
-/
import Derived.Test.YtfmplneopmbfoaaDoorVRange
import Derived.Test.YtfmplneopmbfoaaDoorCnt32
namespace Go.Proofs.YtfmplneopmbfoaaDoor.Wds
open Go.RowKit
set_option linter.unusedVariables false

theorem containsG_any (f t x : Int) (w : World) :
    Calls Tryd.prog 53 #[.agg #[.int .i64 f, .int .i64 t], .int .i64 x] w fun e w' => e = .returned (.bool (Rg.has ⟨f, t⟩ x)) ∧ Below w.heap.size w w' := by
  have HB0 := Lib.hid ((Below.refl w.heap.size w).alloc (Nat.le_refl _) (.cells #[.int .i64 f, .int .i64 t] 34))
  obtain ⟨r, hr⟩ : ∃ z, z = Rg.has ⟨f, t⟩ x := ⟨_, rfl⟩
  rw [← hr]
  rw [Rg.has] at hr
  simp only at hr
  have hk := BlkG.new w #[.int .i64 f, .int .i64 t]
  have p0 := hk.cell 0
  have p1 := hk.cell 1
  clear hk
  by_cases h0 : f ≤ x
  · have d0 : decide (f ≤ x) = true := decide_eq_true h0
    by_cases h1 : x < t
    · have d1 : decide (x < t) = true := decide_eq_true h1
      obtain rfl : r = true := by rw [hr]; exact decide_eq_true ⟨h0, h1⟩
      clear hr
      go_enter Tryd.func53, Tryd.ntmps53
      go_wp2
      go_ret
      exact ⟨ret_bool (by simp), HB0.out⟩
    · have d1 : decide (x < t) = false := decide_eq_false h1
      obtain rfl : r = false := by rw [hr]; exact decide_eq_false (fun h => h1 h.2)
      clear hr
      go_enter Tryd.func53, Tryd.ntmps53
      go_wp2
      go_ret
      exact ⟨ret_bool (by simp), HB0.out⟩
  · have d0 : decide (f ≤ x) = false := decide_eq_false h0
    obtain rfl : r = false := by rw [hr]; exact decide_eq_false (fun h => h0 h.1)
    clear hr
    go_enter Tryd.func53, Tryd.ntmps53
    go_wp2
    go_ret
    exact ⟨ret_bool (by simp), HB0.out⟩
/-- The crowds as they grow: those below k are done, of k the first i. -/
def cw (ss : List Rg.R) (n k i : Nat) : List Nat := (List.range n).map fun j => if j < k then Sc.setOf (Rg.inAt ss j) n else if j = k then Sc.setOf (Rg.inAt ss j) i else 0
theorem cw_len (ss : List Rg.R) (n k i : Nat) : (cw ss n k i).length = n := by simp [cw]
theorem cw_at {ss : List Rg.R} {n k i j : Nat} (h : j < n) : (cw ss n k i).getD j 0 = if j < k then Sc.setOf (Rg.inAt ss j) n else if j = k then Sc.setOf (Rg.inAt ss j) i else 0 := by
  rw [cw, List.getD_eq_getElem?_getD, List.getElem?_map, List.getElem?_range h]; rfl
theorem cw_zero (ss : List Rg.R) (n : Nat) : cw ss n 0 0 = List.replicate n 0 := by
  refine List.ext_getElem (by simp [cw]) fun j h1 h2 => ?_
  simp [cw, Sc.setOf]
theorem cw_next (ss : List Rg.R) (n k : Nat) : cw ss n k n = cw ss n (k + 1) 0 := by
  unfold cw
  refine List.map_congr_left fun j _ => ?_
  by_cases h1 : j < k
  · rw [if_pos h1, if_pos (by omega)]
  · by_cases h2 : j = k
    · subst h2; rw [if_neg h1, if_pos rfl, if_pos (by omega)]
    · rw [if_neg h1, if_neg h2, if_neg (by omega)]
      split <;> simp [Sc.setOf]
theorem cw_set (ss : List Rg.R) (n k i : Nat) (h : k < n) (v : Nat) (hv : v = Sc.setOf (Rg.inAt ss k) (i + 1)) : (cw ss n k i).set k v = cw ss n k (i + 1) := by
  refine List.ext_getElem (by simp [cw]) fun j h1 h2 => ?_
  rw [List.getElem_set]
  by_cases e : k = j
  · subst e; rw [if_pos rfl, hv]; simp [cw]
  · rw [if_neg e]; simp [cw, show ¬ j = k from fun h => e h.symm]
theorem cw_same (ss : List Rg.R) (n k i : Nat) (hf : Rg.inAt ss k i = false) : cw ss n k (i + 1) = cw ss n k i := by
  unfold cw
  refine List.map_congr_left fun j _ => ?_
  by_cases h1 : j < k
  · rw [if_pos h1, if_pos h1]
  · by_cases h2 : j = k
    · subst h2; rw [if_neg h1, if_pos rfl, if_neg h1, if_pos rfl, Sc.setOf, hf]; simp
    · rw [if_neg h1, if_neg h2, if_neg h1, if_neg h2]
def crowds (ss : List Rg.R) (n : Nat) : List Nat := (List.range n).map fun j => Sc.setOf (Rg.inAt ss j) n
theorem crowds_len (ss : List Rg.R) (n : Nat) : (crowds ss n).length = n := by simp [crowds]
theorem crowds_at {ss : List Rg.R} {n j : Nat} (h : j < n) : (crowds ss n).getD j 0 = Sc.setOf (Rg.inAt ss j) n := by
  rw [crowds, List.getD_eq_getElem?_getD, List.getElem?_map, List.getElem?_range h]; rfl
theorem cw_all (ss : List Rg.R) (n : Nat) : cw ss n n 0 = crowds ss n := by
  unfold cw crowds
  refine List.map_congr_left fun j hj => ?_
  rw [if_pos (List.mem_range.1 hj)]
/-- A row of sets is returned: it is new. -/
def RetU (us : List Nat) (n : Nat) (w : World) (e : Ending) (w' : World) : Prop :=
  ∃ g, e = .returned (.slice (some ⟨g, 0, none⟩) n n) ∧ w.heap.size ≤ g ∧ BlkU w' g (cllU us) ∧ Below w.heap.size w w'
set_option maxRecDepth 100000 in
set_option maxHeartbeats 1000000 in
theorem crowds_any (A : Option Addr) (n c : Nat) (ss : List Rg.R) (B : Nat) (w : World) (h : RdG w B A n ss) (hn12 : n ≤ 12) :
    Calls Tryd.prog 27 #[.slice A n c] w (RetU (crowds ss n) n w) := by
  obtain ⟨i0, hi, hz0, hz1, hz2⟩ := info_parts A_infoU
  have H := Lib.hid h; clear h
  go_enter Tryd.func27, Tryd.ntmps27
  go_wp2_with (refine wpList_make_u _ rfl _ _ _ rfl i0 Tryd.underlying50 hi hz0 hz1 hz2 _ _ _ _ n rfl rfl rfl rfl (by omega) ?_)
  go_loopw [13] (fun i wr => ∃ k : Nat, k ≤ n ∧ i = .int .i64 k ∧ BlkU wr w.heap.size (cllU (cw ss n k 0)) ∧ Below w.heap.size w wr) (fun i _ => n - (intOf i).toNat)
  case atStart =>
    exact ⟨0, Nat.zero_le _, rfl, by rw [cw_zero]; exact BlkU.new _ _, (Below.refl _ _).alloc (Nat.le_refl _) _⟩
  case round =>
    rename World => wo
    obtain ⟨k, hk, rfl, hblk, hb⟩ := hrel
    by_cases hlt : k < n
    · obtain ⟨g, o, rfl, hg, c0, c1⟩ := (H.out.below hb).at_ hlt
      obtain ⟨y, hy⟩ : ∃ x, x = Rg.nth ss k := ⟨_, rfl⟩
      rw [← hy] at c0 c1
      obtain ⟨f', t'⟩ := y
      simp only at c0 c1
      have HY := Lib.hid hy; clear hy
      have HBK := Lib.hid hblk
      have HB := Lib.hid hb
      clear hblk hb
      have i1 : (0 : Int) ≤ (k : Int) := by omega
      have i2 : (k : Int) < (n : Int) := by omega
      go_wp2
      go_loopw [20] (fun i wr => ∃ x : Nat, x ≤ n ∧ i = .int .i64 x ∧ BlkU wr w.heap.size (cllU (cw ss n k x)) ∧ BlkG wr wo.heap.size #[.int .i64 f', .int .i64 t'] ∧ Below w.heap.size w wr) (fun i _ => n - (intOf i).toNat)
      case atStart =>
        exact ⟨0, Nat.zero_le _, rfl, HBK.out.alloc _, BlkG.new _ _, HB.out.alloc HB.out.size _⟩
      case round =>
        rename World => wi
        obtain ⟨x, hx, rfl, hblk, hbs, hb⟩ := hrel
        by_cases hlx : x < n
        · obtain ⟨g', o', e', hg', q0, q1⟩ := (H.out.below hb).at_ (k := x) hlx
          injection e' with e'; injection e' with e1 e2; subst e1; subst e2
          obtain ⟨z, hz⟩ : ∃ z, z = Rg.nth ss x := ⟨_, rfl⟩
          rw [← hz] at q0 q1
          obtain ⟨f, t⟩ := z
          simp only at q0 q1
          have HZ := Lib.hid hz; clear hz
          obtain ⟨m, hm⟩ : ∃ z, z = Rg.has ⟨f, t⟩ f' := ⟨_, rfl⟩
          have CM := Lib.hid (fun W => containsG_any f t f' W)
          rw [← hm] at CM
          have hm2 : m = Rg.inAt ss k x := by rw [hm, Rg.inAt, ← HZ.out, ← HY.out]
          have HM := Lib.hid hm2; clear hm hm2
          have HU := Lib.hid hblk
          have s0 := hbs.cell 0
          have s1 := hbs.cell 1
          have hlw := hbs.lt
          have HS2 := Lib.hid (hbs.alloc (.cells #[.int .i64 f, .int .i64 t] 34))
          have HU2 := Lib.hid (hblk.alloc (.cells #[.int .i64 f, .int .i64 t] 34))
          have HB2 := Lib.hid (hb.alloc hb.size (.cells #[.int .i64 f, .int .i64 t] 34))
          clear hbs hblk hb
          have j1 : (0 : Int) ≤ (x : Int) := by omega
          have j2 : (x : Int) < (n : Int) := by omega
          have hset : Sc.setOf (Rg.inAt ss k) x < 4294967296 := Sc.setOf_lt32 _ (by omega)
          obtain ⟨sv, hsv⟩ : ∃ z, z = Sc.setOf (Rg.inAt ss k) x := ⟨_, rfl⟩
          rw [← hsv] at hset
          have HSV := Lib.hid hsv; clear hsv
          have C3 := Lib.hid (fun W => withN_any sv x W hset (by omega))
          go_wp2_with fail
          refine (CM.out _).mono ?_
          rintro e w3 ⟨rfl, hb3⟩
          have hu3 := HU2.out.keep hb3
          have n0 : w3.cell? ⟨w.heap.size, k, none⟩ = some (.int .u32 (sv : Int)) := by
            rw [hu3.cell, cllU_get (by rw [cw_len]; exact hlt), cw_at hlt, if_neg (by omega), if_pos rfl, ← HSV.out]
          have n1 := hu3.frozen k
          have HS3 := Lib.hid (HS2.out.keep hb3)
          have HB3 := Lib.hid (HB2.out.trans (hb3.mono HB2.out.size))
          have HU3 := Lib.hid hu3
          clear hb3 hu3
          cases m
          · go_wp2
            go_roundw
            case rel => exact ⟨x + 1, by omega, by go_num, by rw [cw_same _ _ _ _ HM.out.symm]; exact HU3.out, HS3.out, HB3.out⟩
            case measure => simp [intOf]; omega
          · go_wp2_with fail
            refine (C3.out _).mono ?_
            rintro e w4 ⟨rfl, rfl⟩
            go_wp2
            go_roundw
            case rel =>
              refine ⟨x + 1, by omega, by go_num, ?_, HS3.out.far (p := ⟨w.heap.size, k, none⟩) ?_ _, HB3.out.setCell (p := ⟨w.heap.size, k, none⟩) (Nat.le_refl _) _⟩
              · have := HU3.out.set_ k (.int .u32 ((sv ||| 2 ^ x : Nat) : Int))
                rw [cllU_set, cw_set ss n k x hlt _ (by rw [Sc.setOf, ← HSV.out, ← HM.out, if_pos rfl])] at this
                exact this
              · have := HB.out.size; have := HBK.out.lt; show wo.heap.size ≠ w.heap.size; omega
            case measure => simp [intOf]; omega
        · have hxk : x = n := by omega
          subst hxk
          rw [cw_next] at hblk
          have HU2 := Lib.hid hblk
          have HB2 := Lib.hid hb
          clear hblk hb hbs
          go_wp2
          go_roundw
          case rel => exact ⟨k + 1, by omega, by go_num, HU2.out, HB2.out⟩
          case measure => simp [intOf]; omega
    · have hkn : k = n := by omega
      subst hkn
      rw [cw_all] at hblk
      have HU2 := Lib.hid hblk
      have HB2 := Lib.hid hb
      clear hblk hb
      go_wp2
      go_ret
      exact ⟨_, rfl, Nat.le_refl _, HU2.out, HB2.out⟩
/-- The greatest crowd of the first k that is left without some. -/
def widS (ss : List Rg.R) (n s : Nat) : Nat → Nat
  | 0 => 0
  | k + 1 => max (widS ss n s k) (Rg.pop (Sc.diff (Sc.setOf (Rg.inAt ss k) n) s))
theorem widS_le (ss : List Rg.R) (n s k : Nat) : widS ss n s k ≤ 32 := by
  induction k with
  | zero => exact Nat.zero_le _
  | succ k ih => rw [widS]; have := pop_lt (Sc.diff (Sc.setOf (Rg.inAt ss k) n) s); omega
theorem diff_zero (a : Nat) : Sc.diff a 0 = a := Nat.eq_of_testBit_eq fun k => by rw [Sc.tb_diff, Nat.zero_testBit]; simp
theorem widS_zero (ss : List Rg.R) (h : ss.length ≤ 32) (k : Nat) : widS ss ss.length 0 k = Rg.widAt ss k := by
  induction k with
  | zero => rfl
  | succ k ih => rw [widS, Rg.widAt, ih, diff_zero, Rg.pop_setOf _ h]
set_option maxHeartbeats 1000000 in
theorem widthW_any (g n s : Nat) (ss : List Rg.R) (w : World) (hn : n ≤ 12) (hs : s < 4294967296) (hb : BlkU w g (cllU (crowds ss n))) :
    Calls Tryd.prog 26 #[.int .u32 (s : Int), .slice (some ⟨g, 0, none⟩) n n] w fun e w' => e = .returned (.int .i64 ((widS ss n s n : Nat) : Int)) ∧ Below w.heap.size w w' := by
  have HK := Lib.hid hb; clear hb
  go_enter Tryd.func26, Tryd.ntmps26
  go_wp2
  go_loopw [5, 10] (fun v i wr => ∃ k : Nat, k ≤ n ∧ i = .int .i64 k ∧ v = .int .i64 ((widS ss n s k : Nat) : Int) ∧ Below w.heap.size w wr) (fun _ i _ => n - (intOf i).toNat)
  case atStart => exact ⟨0, Nat.zero_le _, rfl, rfl, Below.refl _ _⟩
  case round =>
    obtain ⟨k, hk, rfl, rfl, hb⟩ := hrel
    by_cases hlt : k < n
    · have hc : wr.cell? ⟨g, k, none⟩ = some (.int .u32 ((Sc.setOf (Rg.inAt ss k) n : Nat) : Int)) := by
        rw [(HK.out.keep hb).cell, cllU_get (by rw [crowds_len]; exact hlt), crowds_at hlt]
      have hl : Sc.setOf (Rg.inAt ss k) n < 4294967296 := Sc.setOf_lt32 _ (by omega)
      obtain ⟨d, hd⟩ : ∃ d, d = Sc.setOf (Rg.inAt ss k) n := ⟨_, rfl⟩
      rw [← hd] at hc hl
      obtain ⟨m, hm⟩ : ∃ m, m = Sc.diff d s := ⟨_, rfl⟩
      have b1 : bits .andNot .u32 (d : Int) (s : Int) = (m : Int) := by rw [hm]; exact u32_andNot d s hl hs
      have hml : m < 4294967296 := by rw [hm]; exact Sc.diff_lt hl
      have CC := Lib.hid (fun W => count_any m W hml)
      have hp := pop_lt m
      have hw := widS_le ss n s k
      have HW := Lib.hid (show widS ss n s (k + 1) = max (widS ss n s k) (Rg.pop m) by rw [widS, hm, hd])
      generalize Rg.pop m = p at CC hp HW
      generalize widS ss n s k = v at hw HW ⊢
      have HB := Lib.hid hb; clear hb hm hd hml
      have i1 : (0 : Int) ≤ (k : Int) := by omega
      have i2 : (k : Int) < (n : Int) := by omega
      go_wp2_with fail
      refine (CC.out _).mono ?_
      rintro e w1 ⟨rfl, hb1⟩
      have HB1 := Lib.hid (HB.out.trans (hb1.mono HB.out.size)); clear hb1
      go_wp2
      go_roundw
      case rel => exact ⟨k + 1, by omega, by go_num, by rw [HW.out]; congr 1; omega, HB1.out⟩
      case measure => simp [intOf]; omega
    · have hkn : k = n := by omega
      have HB := Lib.hid hb; clear hb
      subst hkn
      go_wp2
      go_ret
      exact ⟨rfl, HB.out⟩
theorem iWidthOf_any (A : Option Addr) (n c : Nat) (ss : List Rg.R) (B : Nat) (w : World) (hn : n ≤ 1048576) (h : RdG w B A n ss) :
    Calls Tryd.prog 9 #[.slice A n c] w (RetIB (Rg.widthOf ss).1 (Rg.widthOf ss).2 w) := by
  have CV := Lib.hid (iValidRanges_any A n c ss B w hn h)
  have hl := h.len
  obtain ⟨v, hv⟩ : ∃ z, z = Rg.valid ss := ⟨_, rfl⟩
  unfold Rg.widthOf
  rw [← hv] at CV ⊢
  have H := Lib.hid h; clear h
  cases v
  · clear hv hl
    go_enter Tryd.func9, Tryd.ntmps9
    go_wp2_with fail
    refine CV.out.mono ?_
    rintro e w1 ⟨rfl, hb⟩
    have HB := Lib.hid hb; clear hb
    go_wp2
    go_ret2
    exact ⟨rfl, HB.out⟩
  · have hn12 : n ≤ 12 := by rw [← hl]; exact Rg.len_of_valid hv.symm
    have hw : ((if true = true then (((Rg.width ss : Nat) : Int), true) else (0, false)) : Int × Bool) = (((widS ss n 0 n : Nat) : Int), true) := by
      rw [if_pos rfl, ← hl, widS_zero ss (by omega)]; rfl
    rw [hw]
    clear hv hl hw
    obtain ⟨x, hx⟩ : ∃ x, x = widS ss n 0 n := ⟨_, rfl⟩
    have CW := Lib.hid (fun g W hb => widthW_any g n 0 ss W hn12 (by decide) hb)
    rw [← hx] at CW ⊢
    clear hx
    go_enter Tryd.func9, Tryd.ntmps9
    go_wp2_with fail
    refine CV.out.mono ?_
    rintro e w1 ⟨rfl, hb⟩
    have H1 := Lib.hid (H.out.below hb)
    have HB := Lib.hid hb; clear hb
    go_wp2_with fail
    refine (crowds_any A n c ss B w1 H1.out hn12).mono ?_
    rintro e w2 ⟨g, rfl, hg, hbk, hb⟩
    have HK := Lib.hid hbk
    have HB2 := Lib.hid (HB.out.trans (hb.mono HB.out.size)); clear hb hbk hg
    go_wp2_with fail
    refine (CW.out g w2 HK.out).mono ?_
    rintro e w3 ⟨rfl, hb⟩
    have HB3 := Lib.hid (HB2.out.trans (hb.mono HB2.out.size)); clear hb
    go_wp2
    go_ret2
    exact ⟨rfl, HB3.out⟩
end Go.Proofs.YtfmplneopmbfoaaDoor.Wds
