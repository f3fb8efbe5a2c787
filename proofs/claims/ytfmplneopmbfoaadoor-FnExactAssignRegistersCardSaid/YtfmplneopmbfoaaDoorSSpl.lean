/-
  The fewest spills: the model's functions, one contract each.
-/
import Derived.Test.YtfmplneopmbfoaaDoorCmpC
import Derived.Test.YtfmplneopmbfoaaDoorSWidth
namespace Go.Proofs.YtfmplneopmbfoaaDoor.Wds
open Go.RowKit
set_option linter.unusedVariables false

theorem bitAt (s k : Nat) (hs : s < 4096) : bits .and .i64 ((s : Int) / ((2 ^ k : Nat) : Int)) 1 = if s.testBit k then 1 else 0 := by
  have h2 := (bits_nat .i64 62 (by decide) (fun n h0 h1 => by rw [IntKind.wrap_i64]; omega) (s / 2 ^ k) 1 (Nat.lt_of_le_of_lt (Nat.div_le_self _ _) (Nat.lt_trans hs (by decide))) (by decide)).1
  rw [show ((s / 2 ^ k : Nat) : Int) = (s : Int) / ((2 ^ k : Nat) : Int) by omega] at h2
  rw [show ((1 : Nat) : Int) = 1 from rfl] at h2
  rw [h2, Nat.and_one_is_mod]
  have : (s.testBit k) = decide (s / 2 ^ k % 2 = 1) := by rw [Nat.testBit_eq_decide_div_mod_eq]
  rw [this]
  by_cases h : s / 2 ^ k % 2 = 1
  · rw [decide_eq_true h, h]; rfl
  · rw [decide_eq_false h, show s / 2 ^ k % 2 = 0 by omega]; rfl
/-- The members below k. -/
def memK (s k : Nat) : List Int := ((List.range k).filter fun j => s.testBit j).map Int.ofNat
theorem memK_succ (s k : Nat) : memK s (k + 1) = if s.testBit k then memK s k ++ [(k : Int)] else memK s k := by
  unfold memK
  rw [List.range_succ, List.filter_append]
  cases h : s.testBit k
  · simp [h]
  · simp [h]
theorem memK_all {s : Nat} (hs : s < 4096) : memK s 12 = Sc.memsI s := by
  unfold memK Sc.memsI Sc.mems
  congr 1
  exact (Sc.filter_range_le (by decide) fun k hk => Nat.testBit_lt_two_pow (Nat.lt_of_lt_of_le hs (Nat.pow_le_pow_right (n := 2) (i := 12) (by decide) hk))).symm
theorem memK_len (s k : Nat) : (memK s k).length ≤ k := by
  unfold memK
  rw [List.length_map]
  have := List.length_filter_le (fun j => s.testBit j) (List.range k)
  simpa using this
/-- A list is returned: its row is new. -/
def RowOf2 (zs : List Int) (w : World) (e : Ending) (w' : World) : Prop :=
  ∃ A n c, e = .returned (.slice A n c) ∧ n ≤ 12 ∧ Rd w' w'.heap.size A n zs ∧ Own w' w.heap.size w'.heap.size A n zs ∧ Below w.heap.size w w'
set_option maxRecDepth 100000 in
set_option maxHeartbeats 2000000 in
theorem sSet_any (s : Nat) (w : World) (hs : s < 4096) : Calls Tryd.prog 48 #[.int .i64 (s : Int)] w (RowOf2 (Sc.memsI s) w) := by
  obtain ⟨i0, hi, hz0, hz1, hz2⟩ := info_parts A_info64
  go_enter Tryd.func48, Tryd.ntmps48
  go_wp2
  go_loopw [3, 4] (fun v i wr => ∃ k : Nat, k ≤ 12 ∧ i = .int .i64 k ∧ wr.ownsRow w.heap.size 2 1 v (memK s k).length ((memK s k).map (Value.int .i64)) ∧ Below w.heap.size w wr) (fun _ i _ => 12 - (intOf i).toNat)
  case atStart => exact ⟨0, Nat.zero_le _, rfl, World.ownsRow_made w #[] 0 (Nat.le_refl _) (by decide) rfl, (Below.refl _ _).alloc (Nat.le_refl _) _⟩
  case round =>
    obtain ⟨k, hk, rfl, hown, hb⟩ := hrel
    by_cases hlt : k < 12
    · have hsz := hb.size
      have HB := Lib.hid hb; clear hb
      have i0' : (0 : Int) ≤ (k : Int) := by omega
      have i1 : (k : Int) < 12 := by omega
      have hbit := bitAt s k hs
      have HN := Lib.hid (memK_succ s k)
      have hml := memK_len s k
      obtain ⟨P, hP⟩ : ∃ P : Nat, P = 2 ^ k := ⟨_, rfl⟩
      have hp1 : (2 : Int) ^ k = (P : Int) := by rw [hP]; simp
      have hp2 : 1 ≤ P := by rw [hP]; exact Nat.one_le_two_pow
      have hp3 : (0 : Int) < (P : Int) := by omega
      rw [← hP] at hbit
      clear hP
      cases hc : s.testBit k
      · rw [hc, if_neg (by decide)] at hbit
        have HN2 := Lib.hid (show memK s (k + 1) = memK s k by rw [HN.out, hc]; rfl)
        have HO := Lib.hid hown
        clear hc HN hown
        go_wp2
        go_roundw
        case rel => exact ⟨k + 1, by omega, by go_num, by rw [HN2.out]; exact HO.out, HB.out⟩
        case measure => simp [intOf]; omega
      · rw [hc, if_pos rfl] at hbit
        have HN2 := Lib.hid (show memK s (k + 1) = memK s k ++ [(k : Int)] by rw [HN.out, hc]; rfl)
        clear hc HN
        generalize memK s k = pre at hown hml HN2
        go_wp2_with (at_builtin; refine wpList_push _ rfl _ _ rfl i0 Tryd.underlying29 hi hz0 hz1 hz2 _ _ _ _ _ rfl hown rfl (by omega) hsz ?_; intro v' w3 hown1 hb1; have HO1 := Lib.hid hown1; have HB3 := Lib.hid (HB.out.trans hb1); clear hown1 hb1)
        go_roundw
        case rel => exact ⟨k + 1, by omega, by go_num, by rw [HN2.out, List.length_append]; exact HO1.out, HB3.out⟩
        case measure => simp [intOf]; omega
    · have hk12 : k = 12 := by omega
      subst hk12
      have hml := memK_len s 12
      rw [memK_all hs] at hown hml
      obtain ⟨A, c, rfl, _, ho⟩ := own_form hown
      have HO := Lib.hid ho
      have HB := Lib.hid hb; clear hb hown ho
      go_wp2
      go_ret
      exact ⟨A, _, c, rfl, hml, HO.out.rd, HO.out, HB.out⟩
set_option maxHeartbeats 2000000 in
theorem sLess_any (A A' : Option Addr) (n m c c' : Nat) (xs ys : List Int) (B B' : Nat) (w : World) (hn : n ≤ 1000) (hm : m ≤ 1000) (h : Rd w B A n xs) (h' : Rd w B' A' m ys) :
    Calls Tryd.prog 49 #[.slice A n c, .slice A' m c'] w fun e w' => e = .returned (.bool (Sp.less xs ys)) ∧ Below w.heap.size w w' := by
  have hl := Lib.hid h.len
  have hl' := Lib.hid h'.len
  obtain ⟨r, hr⟩ : ∃ r, r = Sp.less xs ys := ⟨_, rfl⟩
  rw [← hr]
  unfold Sp.less at hr
  rw [hl.out, hl'.out] at hr
  have H := Lib.hid h
  have H' := Lib.hid h'
  clear h h'
  by_cases e : n = m
  · subst e
    rw [if_pos rfl] at hr
    have HR := Lib.hid hr; clear hr
    go_enter Tryd.func49, Tryd.ntmps49
    go_wp2
    go_loopw [5] (fun i wr => ∃ k : Nat, k ≤ n ∧ i = .int .i64 k ∧ Hid (Sp.lexB xs ys = Sp.lexB (xs.drop k) (ys.drop k)) ∧ Below w.heap.size w wr) (fun i _ => n - (intOf i).toNat)
    case atStart => exact ⟨0, Nat.zero_le _, rfl, Lib.hid rfl, Below.refl _ _⟩
    case round =>
      rename World => wr
      obtain ⟨k, hk, rfl, HQ, hb⟩ := hrel
      by_cases h1 : k < n
      · obtain ⟨g, o, rfl, _, hc⟩ := (H.out.below hb).at_ h1
        obtain ⟨g', o', rfl, _, hc'⟩ := (H'.out.below hb).at_ h1
        have hd : xs.drop k = xs.getD k 0 :: xs.drop (k + 1) := by rw [List.drop_eq_getElem_cons (by rw [hl.out]; exact h1), List.getD_eq_getElem?_getD, List.getElem?_eq_getElem (by rw [hl.out]; exact h1)]; rfl
        have hd' : ys.drop k = ys.getD k 0 :: ys.drop (k + 1) := by rw [List.drop_eq_getElem_cons (by rw [hl'.out]; exact h1), List.getD_eq_getElem?_getD, List.getElem?_eq_getElem (by rw [hl'.out]; exact h1)]; rfl
        have HQ2 := Lib.hid (show r = if xs.getD k 0 = ys.getD k 0 then Sp.lexB (xs.drop (k + 1)) (ys.drop (k + 1)) else decide (xs.getD k 0 < ys.getD k 0) by rw [HR.out, HQ.out, hd, hd', Sp.lexB])
        obtain ⟨x, hx⟩ : ∃ x, x = xs.getD k 0 := ⟨_, rfl⟩
        obtain ⟨y, hy⟩ : ∃ x, x = ys.getD k 0 := ⟨_, rfl⟩
        rw [← hx] at hc HQ2
        rw [← hy] at hc' HQ2
        have HB := Lib.hid hb
        have d1 := BelBy.cell hc
        have d2 := BelBy.cell hc'
        have i0 : (0 : Int) ≤ (k : Int) := by omega
        have i1 : (k : Int) < (n : Int) := by omega
        clear hd hd' hx hy HQ hb hc hc'
        by_cases k1 : x = y
        · subst k1
          have HF := Lib.hid (show r = Sp.lexB (xs.drop (k + 1)) (ys.drop (k + 1)) by rw [HQ2.out, if_pos rfl])
          clear HQ2
          go_wp2
          refine wp_region_quiet_bel (by kernel_rfl) (by kernel_rfl) ?_
          repeat (go_big_quiet_step (fail))
          refine wpQuiet_nil ?_
          rintro wq ⟨⟨_, hwq⟩, rfl⟩
          have HB2 := Lib.hid (HB.out.trans (hwq.mono HB.out.size))
          clear d1 d2 hwq
          go_wp2
          go_roundw
          case rel => exact ⟨k + 1, by omega, by go_num, Lib.hid (HR.out.symm.trans HF.out), HB2.out⟩
          case measure => simp [intOf]; omega
        · have HF := Lib.hid (show r = decide (x < y) by rw [HQ2.out, if_neg k1])
          have e1 : (x == y) = false := by simpa using k1
          have e2 : (x != y) = true := by simpa using k1
          clear HQ2 HR
          go_wp2
          refine wp_region_quiet_bel (by kernel_rfl) (by kernel_rfl) ?_
          repeat (go_big_quiet_step (fail))
          refine wpQuiet_nil ?_
          rintro wq ⟨⟨_, hwq⟩, rfl⟩
          have HB2 := Lib.hid (HB.out.trans (hwq.mono HB.out.size))
          have D1 := Lib.hid (show wq.cell? ⟨g, o + k, none⟩ = some (.int .i64 x) from d1 ⟨wq, hwq⟩)
          have D2 := Lib.hid (show wq.cell? ⟨g', o' + k, none⟩ = some (.int .i64 y) from d2 ⟨wq, hwq⟩)
          clear d1 d2 hwq
          have d1 := BelBy.cell D1.out
          have d2 := BelBy.cell D2.out
          go_wp2
          refine wp_region_quiet_bel (by kernel_rfl) (by kernel_rfl) ?_
          repeat (go_big_quiet_step (fail))
          refine wpQuiet_nil ?_
          rintro wq2 ⟨⟨_, hwq2⟩, rfl⟩
          have HB3 := Lib.hid (HB2.out.trans (hwq2.mono HB2.out.size))
          clear d1 d2 hwq2
          go_wp2
          go_ret
          exact ⟨by rw [HF.out]; rfl, HB3.out⟩
      · have hkn : k = n := by omega
        have hz : xs.drop k = [] := List.drop_eq_nil_iff.2 (by rw [hl.out]; omega)
        have HF := Lib.hid (show r = false by rw [HR.out, HQ.out, hz]; rfl)
        have HB := Lib.hid hb
        clear hz hb
        go_wp2
        go_ret
        exact ⟨by rw [HF.out]; rfl, HB.out⟩
  · rw [if_neg e] at hr
    have HR := Lib.hid hr; clear hr
    have e1 : ((n : Int) == (m : Int)) = false := by simp; omega
    have e2 : ((n : Int) != (m : Int)) = true := by simp; omega
    have e3 : decide ((n : Int) = (m : Int)) = false := decide_eq_false (by omega)
    go_enter Tryd.func49, Tryd.ntmps49
    go_wp2
    go_ret
    exact ⟨by rw [HR.out]; first | rfl | exact ret_bool (by simp), Below.refl _ _⟩
theorem sReg_any (A : Option Addr) (n c : Nat) (ss : List Rg.R) (B : Nat) (r : Int) (w : World) (hn : n ≤ 1048576) (h : RdG w B A n ss) :
    Calls Tryd.prog 43 #[.slice A n c, .int .i64 r] w fun e w' => e = .returned (.bool (Rg.valid ss && Sp.isReg r)) ∧ Below w.heap.size w w' := by
  have C1 := Lib.hid (sIsG_any A n c ss B w hn h)
  have C2 := Lib.hid (fun W => inBel r 0 12 (Sp.isReg r) rfl W)
  clear h
  generalize Rg.valid ss = v at C1 ⊢
  generalize Sp.isReg r = q at C2 ⊢
  cases v
  · go_enter Tryd.func43, Tryd.ntmps43
    go_wp2_with fail
    refine C1.out.mono ?_
    rintro e w1 ⟨rfl, hb⟩
    have HB := Lib.hid hb; clear hb
    go_wp2
    go_ret
    exact ⟨rfl, HB.out⟩
  · go_enter Tryd.func43, Tryd.ntmps43
    go_wp2_with fail
    refine C1.out.mono ?_
    rintro e w1 ⟨rfl, hb⟩
    have HB := Lib.hid hb; clear hb
    go_wp2_with fail
    refine (C2.out _).mono ?_
    rintro e w2 ⟨rfl, hb⟩
    have HB2 := Lib.hid (HB.out.trans (hb.mono HB.out.size)); clear hb
    go_wp2
    go_ret
    exact ⟨rfl, HB2.out⟩
set_option maxRecDepth 100000 in
set_option maxHeartbeats 4000000 in
theorem sWid_any (A : Option Addr) (n c s : Nat) (ss : List Rg.R) (B : Nat) (w : World) (hn : n ≤ 12) (hs : s < 4096) (h : RdG w B A n ss) :
    Calls Tryd.prog 50 #[.slice A n c, .int .i64 (s : Int)] w fun e w' => e = .returned (.int .i64 ((Sp.wid ss s n : Nat) : Int)) ∧ Below w.heap.size w w' := by
  have hl := h.len
  have HL := Lib.hid hl
  have H := Lib.hid h; clear h hl
  go_enter Tryd.func50, Tryd.ntmps50
  go_wp2
  go_loopw [5, 6] (fun v i wr => ∃ k : Nat, k ≤ n ∧ i = .int .i64 k ∧ v = .int .i64 ((Sp.wid ss s k : Nat) : Int) ∧ Below w.heap.size w wr) (fun _ i _ => n - (intOf i).toNat)
  case atStart => exact ⟨0, Nat.zero_le _, rfl, rfl, Below.refl _ _⟩
  case round =>
    rename World => wo
    obtain ⟨k, hk, rfl, rfl, hb⟩ := hrel
    by_cases hlt : k < n
    · have hw := Sp.wid_le ss s k
      have HW := Lib.hid (show Sp.wid ss s (k + 1) = max (Sp.wid ss s k) (Rg.cnt (fun x => Rg.inAt ss k x && !s.testBit x) n) by rw [Sp.wid, HL.out])
      generalize Sp.wid ss s k = v at hw HW ⊢
      rw [HL.out] at hw
      have hc := Rg.cnt_le (fun x => Rg.inAt ss k x && !s.testBit x) n
      have HB := Lib.hid hb
      have HS := Lib.hid (H.out.below hb)
      clear hb
      have i1 : (0 : Int) ≤ (k : Int) := by omega
      have i2 : (k : Int) < (n : Int) := by omega
      have i3 : (v : Int) ≤ 12 := by omega
      have HC := Lib.hid hc; clear hc
      go_wp2
      go_loopw [7, 8] (fun u i wr => ∃ x : Nat, x ≤ n ∧ i = .int .i64 x ∧ u = .int .i64 ((Rg.cnt (fun x => Rg.inAt ss k x && !s.testBit x) x : Nat) : Int) ∧ Below wo.heap.size wo wr) (fun _ i _ => n - (intOf i).toNat)
      case atStart => exact ⟨0, Nat.zero_le _, rfl, rfl, Below.refl _ _⟩
      case round =>
        rename World => wi
        obtain ⟨x, hx, rfl, rfl, hb⟩ := hrel
        by_cases hlx : x < n
        · obtain ⟨g, o, rfl, hg, c0, c1⟩ := (HS.out.below hb).at_ hlt
          obtain ⟨g', o', e', hg', q0, q1⟩ := (HS.out.below hb).at_ (k := x) hlx
          injection e' with e'; injection e' with e1 e2; subst e1; subst e2
          have hin : Rg.inAt ss k x = (decide ((Rg.nth ss x).f ≤ (Rg.nth ss k).f) && decide ((Rg.nth ss k).f < (Rg.nth ss x).t)) := by
            rw [Rg.inAt, Rg.has, Bool.decide_and]
          obtain ⟨y, hy⟩ : ∃ y, y = Rg.nth ss k := ⟨_, rfl⟩
          obtain ⟨z, hz'⟩ : ∃ z, z = Rg.nth ss x := ⟨_, rfl⟩
          rw [← hy] at c0 c1 hin
          rw [← hz'] at q0 q1 hin
          obtain ⟨f', t'⟩ := y
          obtain ⟨f, t⟩ := z
          simp only at c0 c1 q0 q1 hin
          clear hy hz'
          have a0 := BelBy.cell c0
          have a1 := BelBy.cell q0
          have a2 := BelBy.cell q1
          have hcx := Rg.cnt_le (fun x => Rg.inAt ss k x && !s.testBit x) x
          have HX := Lib.hid (show Rg.cnt (fun x => Rg.inAt ss k x && !s.testBit x) (x + 1) = Rg.cnt (fun x => Rg.inAt ss k x && !s.testBit x) x + if (Rg.inAt ss k x && !s.testBit x) = true then 1 else 0 by rw [Rg.cnt])
          rw [hin] at HX
          generalize Rg.cnt (fun x => Rg.inAt ss k x && !s.testBit x) x = u at hcx HX ⊢
          have HB2 := Lib.hid hb
          clear hb c0 c1 q0 q1 hin
          have j1 : (0 : Int) ≤ (x : Int) := by omega
          have j2 : (x : Int) < (n : Int) := by omega
          have j3 : (u : Int) ≤ 12 := by omega
          have hbit := bitAt s x hs
          obtain ⟨P, hP⟩ : ∃ P : Nat, P = 2 ^ x := ⟨_, rfl⟩
          have hp1 : (2 : Int) ^ x = (P : Int) := by rw [hP]; simp
          have hp2 : 1 ≤ P := by rw [hP]; exact Nat.one_le_two_pow
          have hp3 : (0 : Int) < (P : Int) := by omega
          rw [← hP] at hbit
          clear hP
          generalize s.testBit x = tb at hbit HX
          obtain ⟨bv, hbv⟩ : ∃ bv, bv = (decide (f ≤ f') && decide (f' < t) && !tb) := ⟨_, rfl⟩
          rw [← hbv] at HX
          have key : Rg.cnt (fun x => Rg.inAt ss k x && !s.testBit x) (x + 1) = u + (if bv = true then 1 else 0) := HX.out
          cases tb
          · rw [if_neg (by decide)] at hbit
            by_cases h0 : f ≤ f'
            · have d0 : decide (f ≤ f') = true := decide_eq_true h0
              rw [d0] at hbv
              clear h0
              by_cases h1 : f' < t
              · have d1 : decide (f' < t) = true := decide_eq_true h1
                rw [d1] at hbv
                replace hbv : bv = true := hbv
                clear h1
                subst hbv
                have HX2 := Lib.hid key
                clear key
                go_wp2
                refine wp_region_quiet_bel (by kernel_rfl) (by kernel_rfl) ?_
                repeat (go_big_quiet_step (fail))
                refine wpQuiet_nil ?_
                rintro _ ⟨⟨wq, hwq⟩, rfl⟩
                go_wp2
                go_roundw
                case rel => exact ⟨x + 1, by omega, by go_num, by rw [HX2.out]; go_num, HB2.out.trans (hwq.mono HB2.out.size)⟩
                case measure => simp [intOf]; omega
              · have d1 : decide (f' < t) = false := decide_eq_false h1
                rw [d1] at hbv
                replace hbv : bv = false := hbv
                clear h1
                subst hbv
                have HX2 := Lib.hid key
                clear key
                go_wp2
                refine wp_region_quiet_bel (by kernel_rfl) (by kernel_rfl) ?_
                repeat (go_big_quiet_step (fail))
                refine wpQuiet_nil ?_
                rintro _ ⟨⟨wq, hwq⟩, rfl⟩
                go_wp2
                go_roundw
                case rel => exact ⟨x + 1, by omega, by go_num, by rw [HX2.out]; simp, HB2.out.trans (hwq.mono HB2.out.size)⟩
                case measure => simp [intOf]; omega
            · have d0 : decide (f ≤ f') = false := decide_eq_false h0
              rw [d0] at hbv
              replace hbv : bv = false := hbv
              clear h0
              subst hbv
              have HX2 := Lib.hid key
              clear key
              go_wp2
              refine wp_region_quiet_bel (by kernel_rfl) (by kernel_rfl) ?_
              repeat (go_big_quiet_step (fail))
              refine wpQuiet_nil ?_
              rintro _ ⟨⟨wq, hwq⟩, rfl⟩
              go_wp2
              go_roundw
              case rel => exact ⟨x + 1, by omega, by go_num, by rw [HX2.out]; simp, HB2.out.trans (hwq.mono HB2.out.size)⟩
              case measure => simp [intOf]; omega
          · rw [if_pos rfl] at hbit
            replace hbv : bv = false := by rw [hbv]; simp
            subst hbv
            have HX2 := Lib.hid key
            clear key
            go_wp2
            refine wp_region_quiet_bel (by kernel_rfl) (by kernel_rfl) ?_
            repeat (go_big_quiet_step (fail))
            refine wpQuiet_nil ?_
            rintro _ ⟨⟨wq, hwq⟩, rfl⟩
            go_wp2
            go_roundw
            case rel => exact ⟨x + 1, by omega, by go_num, by rw [HX2.out]; simp, HB2.out.trans (hwq.mono HB2.out.size)⟩
            case measure => simp [intOf]; omega
        · have hxk : x = n := by omega
          subst hxk
          have hc := HC.out
          generalize Rg.cnt (fun x => Rg.inAt ss k x && !s.testBit x) x = u at hc HW ⊢
          have HB2 := Lib.hid (HB.out.trans (hb.mono HB.out.size))
          clear hb
          have j3 : (u : Int) ≤ 12 := by omega
          go_wp2_with fail
          refine (maxM_any _ _ _).mono ?_
          rintro e w2 ⟨rfl, rfl⟩
          go_wp2
          go_roundw
          case rel => exact ⟨k + 1, by omega, by go_num, by rw [HW.out]; congr 1; omega, HB2.out⟩
          case measure => simp [intOf]; omega
    · have hkn : k = n := by omega
      have HB := Lib.hid hb; clear hb
      subst hkn
      go_wp2
      go_ret
      exact ⟨rfl, HB.out⟩
end Go.Proofs.YtfmplneopmbfoaaDoor.Wds
