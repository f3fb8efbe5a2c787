/-
  The library's comparisons: cmp.Compare of numbers, cmp.Or of two, slices.Compare; sets by their sizes and members: one contract each.
-/
import Derived.Test.YtfmplneopmbfoaaDoorMem
import Derived.Test.YtfmplneopmbfoaaDoorSpM
import Derived.Test.YtfmplneopmbfoaaDoorInB
import Derived.Test.YtfmplneopmbfoaaDoorOnes
namespace Go.Proofs.YtfmplneopmbfoaaDoor.Wds
open Go.RowKit
set_option linter.unusedVariables false

theorem isNan_any (x : Int) (w : World) : Calls Tryd.prog 57 #[.int .i64 x] w fun e w' => e = .returned (.bool false) ∧ w = w' := by
  go_enter Tryd.func57, Tryd.ntmps57
  go_wp2
  go_ret
  exact ⟨ret_bool (by simp), rfl⟩
theorem cmpI_any (x y : Int) (w : World) : Calls Tryd.prog 33 #[.int .i64 x, .int .i64 y] w fun e w' => e = .returned (.int .i64 (Sp.cmpI x y)) ∧ w = w' := by
  unfold Sp.cmpI
  by_cases h1 : x < y
  · rw [if_pos h1]
    have d1 : decide (x < y) = true := decide_eq_true h1
    go_enter Tryd.func33, Tryd.ntmps33
    go_wp2_with fail
    refine (isNan_any x _).mono ?_
    rintro e w' ⟨rfl, rfl⟩
    go_wp2_with fail
    refine (isNan_any y _).mono ?_
    rintro e w' ⟨rfl, rfl⟩
    go_wp2
    go_ret
    exact ⟨rfl, rfl⟩
  · rw [if_neg h1]
    have d1 : decide (x < y) = false := decide_eq_false h1
    by_cases h2 : y < x
    · rw [if_pos h2]
      have d2 : decide (y < x) = true := decide_eq_true h2
      go_enter Tryd.func33, Tryd.ntmps33
      go_wp2_with fail
      refine (isNan_any x _).mono ?_
      rintro e w' ⟨rfl, rfl⟩
      go_wp2_with fail
      refine (isNan_any y _).mono ?_
      rintro e w' ⟨rfl, rfl⟩
      go_wp2
      go_ret
      exact ⟨rfl, rfl⟩
    · rw [if_neg h2]
      have d2 : decide (y < x) = false := decide_eq_false h2
      go_enter Tryd.func33, Tryd.ntmps33
      go_wp2_with fail
      refine (isNan_any x _).mono ?_
      rintro e w' ⟨rfl, rfl⟩
      go_wp2_with fail
      refine (isNan_any y _).mono ?_
      rintro e w' ⟨rfl, rfl⟩
      go_wp2
      go_ret
      exact ⟨rfl, rfl⟩
set_option maxHeartbeats 1000000 in
theorem cmpOr_any (g cp : Nat) (x y : Int) (w : World) (h0 : w.cell? ⟨g, 0, none⟩ = some (.int .i64 x)) (h1 : w.cell? ⟨g, 1, none⟩ = some (.int .i64 y)) :
    Calls Tryd.prog 60 #[.slice (some ⟨g, 0, none⟩) 2 cp] w fun e w' => e = .returned (.int .i64 (Sp.orI x y)) ∧ Below w.heap.size w w' := by
  unfold Sp.orI
  have c0 := Lib.hid (BelBy.cell h0)
  have c1 := Lib.hid (BelBy.cell h1)
  by_cases hx : x = 0
  · subst hx
    rw [if_pos rfl]
    clear h0 h1
    go_enter Tryd.func60, Tryd.ntmps60
    go_wp2
    go_loopw [8] (fun i wr => (i = .int .i64 0 ∨ i = .int .i64 1 ∨ (y = 0 ∧ i = .int .i64 2)) ∧ Below w.heap.size w wr) (fun i _ => 2 - (intOf i).toNat)
    case atStart => exact ⟨.inl rfl, Below.refl _ _⟩
    case round =>
      rename World => wr
      obtain ⟨hi, hb⟩ := hrel
      have k0 := c0.out ⟨wr, hb⟩
      have k1 := c1.out ⟨wr, hb⟩
      dsimp only at k0 k1
      have HB := Lib.hid hb; clear hb
      rcases hi with rfl | rfl | ⟨rfl, rfl⟩
      · go_wp2
        go_roundw
        case rel => exact ⟨.inr (.inl rfl), HB.out⟩
        case measure => simp [intOf]
      · by_cases hy : y = 0
        · subst hy
          go_wp2
          go_roundw
          case rel => exact ⟨.inr (.inr (by first | exact ⟨rfl, rfl⟩ | exact ⟨trivial, rfl⟩)), HB.out⟩
          case measure => simp [intOf]
        · have e1 : (y != 0) = true := by simpa using hy
          have e2 : ¬ (y = 0) := hy
          go_wp2
          go_ret
          exact ⟨rfl, HB.out⟩
      · go_wp2
        go_ret
        exact ⟨rfl, HB.out⟩
  · rw [if_neg hx]
    have e1 : (x != 0) = true := by simpa using hx
    clear c0 c1
    go_enter Tryd.func60, Tryd.ntmps60
    go_wp2
    go_loopw [8] (fun i wr => i = .int .i64 0 ∧ w = wr) (fun i _ => 0)
    case atStart => exact ⟨rfl, rfl⟩
    case round =>
      obtain ⟨rfl, rfl⟩ := hrel
      go_wp2
      go_ret
      exact ⟨rfl, Below.refl _ _⟩
set_option maxHeartbeats 2000000 in
theorem slCmp_any (A A' : Option Addr) (n m c c' : Nat) (xs ys : List Int) (B B' : Nat) (w : World) (hn : n ≤ 1000) (hm : m ≤ 1000) (h : Rd w B A n xs) (h' : Rd w B' A' m ys) :
    Calls Tryd.prog 61 #[.slice A n c, .slice A' m c'] w fun e w' => e = .returned (.int .i64 (Sp.cmpL xs ys)) ∧ w = w' := by
  have hl := Lib.hid h.len
  have hl' := Lib.hid h'.len
  have H := Lib.hid h
  have H' := Lib.hid h'
  clear h h'
  go_enter Tryd.func61, Tryd.ntmps61
  go_wp2
  go_loop [11] (fun i => ∃ k : Nat, k ≤ n ∧ k ≤ m ∧ i = .int .i64 k ∧ Hid (Sp.cmpL xs ys = Sp.cmpL (xs.drop k) (ys.drop k))) (fun i => n - (intOf i).toNat)
  case atStart => exact ⟨0, Nat.zero_le _, Nat.zero_le _, rfl, Lib.hid rfl⟩
  case round =>
    obtain ⟨k, hk, hkm, rfl, HQ⟩ := hrel
    by_cases h1 : k < n
    · obtain ⟨g, o, rfl, _, hc⟩ := H.out.at_ h1
      have i0 : (0 : Int) ≤ (k : Int) := by omega
      have i1 : (k : Int) < (n : Int) := by omega
      have hd : xs.drop k = xs.getD k 0 :: xs.drop (k + 1) := by rw [List.drop_eq_getElem_cons (by rw [hl.out]; exact h1), List.getD_eq_getElem?_getD, List.getElem?_eq_getElem (by rw [hl.out]; exact h1)]; rfl
      by_cases h2 : k < m
      · obtain ⟨g', o', rfl, _, hc'⟩ := H'.out.at_ h2
        have i2 : (k : Int) < (m : Int) := by omega
        have d2 : decide ((m : Int) ≤ (k : Int)) = false := decide_eq_false (by omega)
        have d3 : decide (m ≤ k) = false := decide_eq_false (by omega)
        have hd' : ys.drop k = ys.getD k 0 :: ys.drop (k + 1) := by rw [List.drop_eq_getElem_cons (by rw [hl'.out]; exact h2), List.getD_eq_getElem?_getD, List.getElem?_eq_getElem (by rw [hl'.out]; exact h2)]; rfl
        have HQ2 := Lib.hid (show Sp.cmpL xs ys = if xs.getD k 0 < ys.getD k 0 then -1 else if ys.getD k 0 < xs.getD k 0 then 1 else Sp.cmpL (xs.drop (k + 1)) (ys.drop (k + 1)) by rw [HQ.out, hd, hd', Sp.cmpL])
        obtain ⟨x, hx⟩ : ∃ x, x = xs.getD k 0 := ⟨_, rfl⟩
        obtain ⟨y, hy⟩ : ∃ x, x = ys.getD k 0 := ⟨_, rfl⟩
        rw [← hx] at hc HQ2
        rw [← hy] at hc' HQ2
        have CI := Lib.hid (fun W => cmpI_any x y W)
        unfold Sp.cmpI at CI
        clear hd hd' hx hy HQ
        by_cases k1 : x < y
        · rw [if_pos k1] at CI
          have HF := Lib.hid (show Sp.cmpL xs ys = -1 by rw [HQ2.out, if_pos k1])
          clear k1 HQ2
          go_wp2_with fail
          refine (CI.out _).mono ?_
          rintro e w' ⟨rfl, rfl⟩
          go_wp2
          go_ret
          exact ⟨by rw [HF.out]; rfl, rfl⟩
        · rw [if_neg k1] at CI
          by_cases k2 : y < x
          · rw [if_pos k2] at CI
            have HF := Lib.hid (show Sp.cmpL xs ys = 1 by rw [HQ2.out, if_neg k1, if_pos k2])
            clear k1 k2 HQ2
            go_wp2_with fail
            refine (CI.out _).mono ?_
            rintro e w' ⟨rfl, rfl⟩
            go_wp2
            go_ret
            exact ⟨by rw [HF.out]; rfl, rfl⟩
          · rw [if_neg k2] at CI
            have HF := Lib.hid (show Sp.cmpL xs ys = Sp.cmpL (xs.drop (k + 1)) (ys.drop (k + 1)) by rw [HQ2.out, if_neg k1, if_neg k2])
            clear k1 k2 HQ2
            go_wp2_with fail
            refine (CI.out _).mono ?_
            rintro e w' ⟨rfl, rfl⟩
            go_wp2
            go_round
            case rel => exact ⟨k + 1, by omega, by omega, by go_num, HF⟩
            case measure => simp [intOf]; omega
      · have hz : ys.drop k = [] := List.drop_eq_nil_iff.2 (by rw [hl'.out]; omega)
        have HF := Lib.hid (show Sp.cmpL xs ys = 1 by rw [HQ.out, hd, hz]; rfl)
        have d2 : decide ((m : Int) ≤ (k : Int)) = true := decide_eq_true (by omega)
        have d3 : decide (m ≤ k) = true := decide_eq_true (by omega)
        clear hd hz
        go_wp2
        go_ret
        exact ⟨by rw [HF.out]; rfl, rfl⟩
    · have hz : xs.drop k = [] := List.drop_eq_nil_iff.2 (by rw [hl.out]; omega)
      have hkn : k = n := by omega
      subst hkn
      by_cases h2 : k < m
      · have hd' : ys.drop k = ys.getD k 0 :: ys.drop (k + 1) := by rw [List.drop_eq_getElem_cons (by rw [hl'.out]; exact h2), List.getD_eq_getElem?_getD, List.getElem?_eq_getElem (by rw [hl'.out]; exact h2)]; rfl
        have HF := Lib.hid (show Sp.cmpL xs ys = -1 by rw [HQ.out, hz, hd']; rfl)
        have i2 : (k : Int) < (m : Int) := by omega
        clear hz hd'
        go_wp2
        go_ret
        exact ⟨by rw [HF.out]; rfl, rfl⟩
      · have hz' : ys.drop k = [] := List.drop_eq_nil_iff.2 (by rw [hl'.out]; omega)
        have HF := Lib.hid (show Sp.cmpL xs ys = 0 by rw [HQ.out, hz, hz']; rfl)
        have i2 : ¬ ((k : Int) < (m : Int)) := by omega
        clear hz hz'
        go_wp2
        go_ret
        exact ⟨by rw [HF.out]; rfl, rfl⟩
set_option maxHeartbeats 2000000 in
theorem isBefore_any (s t : Nat) (w : World) (hs : s < 4294967296) (ht : t < 4294967296) (hT : TabT w) :
    Calls Tryd.prog 41 #[.int .u32 (s : Int), .int .u32 (t : Int)] w fun e w' => e = .returned (.bool (Sp.less (Sc.memsI s) (Sc.memsI t))) ∧ Below w.heap.size w w' := by
  have HQ := Lib.hid (Sp.or_less (Sc.memsI s) (Sc.memsI t))
  have HT := Lib.hid hT; clear hT
  have C1 := Lib.hid (fun W => count_any s W hs)
  have C2 := Lib.hid (fun W => count_any t W ht)
  rw [← Sp.mems_len s] at C1
  rw [← Sp.mems_len t] at C2
  go_enter Tryd.func41, Tryd.ntmps41
  go_wp2_with fail
  refine (C1.out _).mono ?_
  rintro e w1 ⟨rfl, hb1⟩
  have HB1 := Lib.hid hb1; clear hb1
  go_wp2_with fail
  refine (C2.out _).mono ?_
  rintro e w2 ⟨rfl, hb⟩
  have HB2 := Lib.hid (HB1.out.trans (hb.mono HB1.out.size)); clear hb
  go_wp2_with fail
  refine (cmpI_any _ _ _).mono ?_
  rintro e w3 ⟨rfl, rfl⟩
  go_wp2_with fail
  refine (members_any s w2 hs (HT.out.below HB2.out HT.out.lt)).mono ?_
  rintro e w3 ⟨A3, n3, c3, rfl, ho3, _, _, hb⟩
  have HB3 := Lib.hid (HB2.out.trans (hb.mono HB2.out.size)); clear hb
  have HO3 := Lib.hid ho3.rd; clear ho3
  go_wp2_with fail
  refine (members_any t w3 ht (HT.out.below HB3.out HT.out.lt)).mono ?_
  rintro e w4 ⟨A4, n4, c4, rfl, ho4, _, _, hb⟩
  have HB4 := Lib.hid (HB3.out.trans (hb.mono HB3.out.size))
  have HO3' := Lib.hid (HO3.out.below hb); clear hb
  have HO4 := Lib.hid ho4.rd; clear ho4
  have l3 : n3 ≤ 1000 := by have := HO3'.out.len; have := Sc.mems_len s; rw [Sc.memsI, List.length_map] at *; omega
  have l4 : n4 ≤ 1000 := by have := HO4.out.len; have := Sc.mems_len t; rw [Sc.memsI, List.length_map] at *; omega
  have CC := Lib.hid (slCmp_any A3 A4 n3 n4 c3 c4 _ _ _ _ w4 l3 l4 HO3'.out HO4.out)
  generalize Sp.cmpI ((Sc.memsI s).length : Int) ((Sc.memsI t).length : Int) = x at HQ ⊢
  generalize Sp.cmpL (Sc.memsI s) (Sc.memsI t) = y at HQ CC
  clear HO3 HO3' HO4
  go_wp2_with fail
  refine CC.out.mono ?_
  rintro e w5 ⟨rfl, rfl⟩
  go_wp2_with fail
  refine (cmpOr_any _ _ x y _ ?_ ?_).mono ?_
  · simp
  · simp
  rintro e w6 ⟨rfl, hb⟩
  have HB6 := Lib.hid (HB4.out.trans (((Below.refl w4.heap.size w4).alloc (Nat.le_refl _) _).trans (hb.mono (by simp)) |>.mono HB4.out.size)); clear hb
  go_wp2
  go_ret
  exact ⟨by rw [← HQ.out]; rfl, HB6.out⟩
theorem low_missing {s t : Nat} (hs : s < 4294967296) (ht : t < 32) (h : s.testBit t = false) (hl : ∀ j, j < t → s.testBit j = true) : 4294967295 - s ≠ 0 ∧ (4294967295 - s) &&& (4294967296 - (4294967295 - s)) = 2 ^ t := by
  have tb : ∀ k, (4294967295 - s).testBit k = (decide (k < 32) && !s.testBit k) := fun k => by
    have := Nat.testBit_two_pow_sub_succ (n := 32) (x := s) (by omega) k
    rw [show 2 ^ 32 - (s + 1) = 4294967295 - s by omega] at this
    exact this
  have ht1 : (4294967295 - s).testBit t = true := by rw [tb, decide_eq_true ht, h]; rfl
  have h0 : 4294967295 - s ≠ 0 := fun e => by rw [e, Nat.zero_testBit] at ht1; cases ht1
  refine ⟨h0, ?_⟩
  obtain ⟨t', h1, h2, h3, _⟩ := Sc.mems_step h0 (by omega)
  rw [h2]
  congr 1
  have hp : (Sc.mems (4294967295 - s)).Pairwise (· < ·) := List.Pairwise.filter _ List.pairwise_lt_range
  have hm : t ∈ Sc.mems (4294967295 - s) := List.mem_filter.2 ⟨List.mem_range.2 ht, ht1⟩
  have hm' : t' ∈ Sc.mems (4294967295 - s) := by rw [h3]; exact List.mem_cons_self ..
  have ht' := (List.mem_filter.1 hm').2
  rw [h3] at hm hp
  rw [List.pairwise_cons] at hp
  rcases List.mem_cons.1 hm with e | e
  · exact e.symm
  · have := hp.1 t e
    have ht'' : (4294967295 - s).testBit t' = true := ht'
    rw [tb, hl t' this] at ht''
    simp at ht''
theorem u32_not (s : Nat) (hs : s < 4294967296) : bits .xor .u32 IntKind.u32.max (s : Int) = ((4294967295 - s : Nat) : Int) := by
  have hb' : s % 2 ^ 32 = s := Nat.mod_eq_of_lt hs
  have e : (BitVec.ofNat 32 4294967295 ^^^ BitVec.ofNat 32 s).toNat = 4294967295 - s := by
    rw [show BitVec.ofNat 32 4294967295 = BitVec.allOnes 32 from rfl, BitVec.allOnes_xor, BitVec.toNat_not, BitVec.toNat_ofNat, hb']
  show IntKind.u32.wrap (((BitVec.ofInt 32 (4294967295 : Int) ^^^ BitVec.ofInt 32 (s : Int)).toNat : Nat) : Int) = _
  rw [show BitVec.ofInt 32 (4294967295 : Int) = BitVec.ofNat 32 4294967295 from rfl, show BitVec.ofInt 32 (s : Int) = BitVec.ofNat 32 s from by simp, e]
  exact wraps_u32 _ (by omega) (by omega)
theorem low_missing2 {s t : Nat} (hs : s < 4294967296) (ht : t < 32) (h : s.testBit t = false) (hl : ∀ j, j < t → s.testBit j = true) : ∃ q : Nat, bits .xor .u32 IntKind.u32.max (s : Int) = (q : Int) ∧ q < 4294967296 ∧ q ≠ 0 ∧ q &&& (4294967296 - q) = 2 ^ t := by
  obtain ⟨h0, h1⟩ := low_missing hs ht h hl
  obtain ⟨q, hq⟩ : ∃ q, q = 4294967295 - s := ⟨_, rfl⟩
  have hx := u32_not s hs
  rw [← hq] at h0 h1 hx
  exact ⟨q, hx, by omega, h0, h1⟩
theorem missing_any (s t : Nat) (w : World) (hs : s < 4294967296) (ht : t < 32) (h : s.testBit t = false) (hl : ∀ j, j < t → s.testBit j = true) (hT : TabT w) :
    Calls Tryd.prog 36 #[.int .u32 (s : Int)] w fun e w' => e = .returned (.int .i64 (t : Int)) ∧ w = w' := by
  obtain ⟨q, hq, hlt, h0, hlow⟩ := low_missing2 hs ht h hl
  have C := Lib.hid (tz_any q t w hlt h0 ht hlow hT)
  clear h0 hlow hT hlt
  go_enter Tryd.func36, Tryd.ntmps36
  go_wp2_with fail
  refine C.out.mono ?_
  rintro e w1 ⟨rfl, rfl⟩
  go_wp2
  go_ret
  exact ⟨rfl, rfl⟩
end Go.Proofs.YtfmplneopmbfoaaDoor.Wds
