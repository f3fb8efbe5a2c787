/-
  The model's NamedShuffle, whole; PickLanes: the code's and the model's function; one contract each.
-/
import Derived.Test.YtfmplneopmbfoaaSNamed
import Derived.Test.YtfmplneopmbfoaaSld
namespace Go.Proofs.Ytfmplneopmbfoaa.Wds
open Go.RowKit
set_option linter.unusedVariables false

set_option maxHeartbeats 1000000 in
set_option maxRecDepth 100000 in
theorem sNamedShuffle_any (kind n b : Int) (w : World) :
    Calls Try.prog 77 #[.int .i64 kind, .int .i64 n, .int .i64 b] w (Ret1 (Ln.named kind n b).1 (Ln.named kind n b).2 w) := by
  have k1 := sLanes_any n w
  unfold Ln.named Ln.namedOk
  obtain ⟨l, hl⟩ : ∃ l, l = Ln.lanes n := ⟨_, rfl⟩
  rw [← hl] at k1 ⊢
  cases l
  · rw [Bool.false_and, Bool.false_and, Bool.false_and]
    have C1 := Lib.hid k1
    clear k1 hl
    go_enter Try.func77, Try.ntmps77
    go_wp2_with fail
    refine C1.out.mono ?_
    rintro e w1 ⟨rfl, rfl⟩
    go_wp2_with fail
    go_ret2
    exact Ret1.no (Below.refl _ _)
  · rw [Bool.true_and]
    have hn := Ln.lanes_cases hl.symm
    have C1 := Lib.hid k1
    by_cases hk : 0 ≤ kind ∧ kind ≤ 5
    · have C2 := Lib.hid (fun W => in_yes kind 0 5 W hk)
      by_cases hb : 0 ≤ b ∧ b < n
      · have C3 := Lib.hid (fun W => in_yes b 0 (n - 1) W (by omega))
        by_cases hz : 0 < b ∧ (kind = 1 ∨ kind = 3 ∨ kind = 4)
        · have e : (decide (0 ≤ kind ∧ kind ≤ 5) && decide (0 ≤ b ∧ b < n) && !(decide (0 < b) && (kind == 1 || kind == 3 || kind == 4))) = false := by
            obtain ⟨ha, hb⟩ := hz
            rw [decide_eq_true ha]
            rcases hb with rfl | rfl | rfl <;> simp
          rw [e]
          obtain ⟨ha, hkk⟩ := hz
          have hb3 : decide (0 < b) = true := decide_eq_true ha
          have n1 : 0 ≤ n - 1 := by omega
          clear e k1 hl hb hk
          rcases hkk with rfl | rfl | rfl
          all_goals
            rcases hn with rfl | rfl | rfl | rfl
            all_goals
              go_enter Try.func77, Try.ntmps77
              go_wp2_with fail
              refine C1.out.mono ?_
              rintro e w1 ⟨rfl, rfl⟩
              go_wp2_with fail
              refine (C2.out _).mono ?_
              rintro e w1 ⟨rfl, rfl⟩
              go_wp2_with fail
              refine (C3.out _).mono ?_
              rintro e w1 ⟨rfl, rfl⟩
              go_wp2_with fail
              go_ret2
              exact Ret1.no (Below.refl _ _)
        · have e : (decide (0 ≤ kind ∧ kind ≤ 5) && decide (0 ≤ b ∧ b < n) && !(decide (0 < b) && (kind == 1 || kind == 3 || kind == 4))) = true := by
            rw [decide_eq_true hk, decide_eq_true hb]
            simp
            omega
          rw [e]
          have hkc : kind = 0 ∨ kind = 1 ∨ kind = 2 ∨ kind = 3 ∨ kind = 4 ∨ kind = 5 := by omega
          obtain ⟨m, hm, rfl⟩ : ∃ m : Nat, m ≤ 16 ∧ n = (m : Int) := ⟨n.toNat, by omega, by omega⟩
          rcases hkc with rfl | rfl | rfl | rfl | rfl | rfl
          · exact sNam_0 b m w hl.symm hb
          · obtain rfl : b = 0 := by omega
            exact sNam_1 m w hl.symm
          · exact sNam_2 b m w hl.symm hb
          · obtain rfl : b = 0 := by omega
            have : m = 2 ∨ m = 4 ∨ m = 8 ∨ m = 16 := by omega
            rcases this with rfl | rfl | rfl | rfl
            · exact sNam_3_2 w
            · exact sNam_3_4 w
            · exact sNam_3_8 w
            · exact sNam_3_16 w
          · obtain rfl : b = 0 := by omega
            have : m = 2 ∨ m = 4 ∨ m = 8 ∨ m = 16 := by omega
            rcases this with rfl | rfl | rfl | rfl
            · exact sNam_4_2 w
            · exact sNam_4_4 w
            · exact sNam_4_8 w
            · exact sNam_4_16 w
          · exact sNam_5 b m w hl.symm hb
      · rw [decide_eq_false hb, Bool.and_false, Bool.false_and]
        have C3 := Lib.hid (fun W => in_no b 0 (n - 1) W (by omega))
        clear k1 hl hb hk
        rcases hn with rfl | rfl | rfl | rfl
        all_goals
          go_enter Try.func77, Try.ntmps77
          go_wp2_with fail
          refine C1.out.mono ?_
          rintro e w1 ⟨rfl, rfl⟩
          go_wp2_with fail
          refine (C2.out _).mono ?_
          rintro e w1 ⟨rfl, rfl⟩
          go_wp2_with fail
          refine (C3.out _).mono ?_
          rintro e w1 ⟨rfl, rfl⟩
          go_wp2_with fail
          go_ret2
          exact Ret1.no (Below.refl _ _)
    · rw [decide_eq_false hk, Bool.false_and, Bool.false_and]
      have C2 := Lib.hid (fun W => in_no kind 0 5 W hk)
      clear k1 hl hk hn
      go_enter Try.func77, Try.ntmps77
      go_wp2_with fail
      refine C1.out.mono ?_
      rintro e w1 ⟨rfl, rfl⟩
      go_wp2_with fail
      refine (C2.out _).mono ?_
      rintro e w1 ⟨rfl, rfl⟩
      go_wp2_with fail
      go_ret2
      exact Ret1.no (Below.refl _ _)
set_option maxHeartbeats 1000000 in
theorem iPickLanes_any (b : Int) (A0 : Option Addr) (n0 c0 : Nat) (is : List Int) (B0 : Nat) (A1 : Option Addr) (n1 c1 : Nat) (xs : List Int) (B1 : Nat) (A2 : Option Addr) (n2 c2 : Nat) (ys : List Int) (B2 : Nat) (w : World)
    (hn0 : n0 ≤ 1048576) (hn1 : n1 ≤ 1048576) (hn2 : n2 ≤ 1048576) (h0 : Rd w B0 A0 n0 is) (h1 : Rd w B1 A1 n1 xs) (h2 : Rd w B2 A2 n2 ys) :
    Calls Try.prog 22 #[.int .i64 b, .slice A0 n0 c0, .slice A1 n1 c1, .slice A2 n2 c2] w (Ret1 (Ln.pick b is xs ys).1 (Ln.pick b is xs ys).2 w) := by
  have k1 := areVec_any b A1 A2 n1 n2 c1 c2 xs ys B1 B2 w hn1 hn2 h1 h2
  have hb2 := fun (h : Ln.both b xs ys = true) => Ln.both_len h
  unfold Ln.pick
  obtain ⟨u, hu⟩ : ∃ u, u = Ln.both b xs ys := ⟨_, rfl⟩
  rw [← hu] at k1 hb2 ⊢
  cases u
  · rw [Bool.false_and, Bool.false_and]
    have C1 := Lib.hid k1
    clear k1 hu hb2 h0 h1 h2
    go_enter Try.func22, Try.ntmps22
    go_wp2_with fail
    refine C1.out.mono ?_
    rintro e w1 ⟨rfl, hb⟩
    have HB := Lib.hid hb; clear hb
    go_wp2_with fail
    go_ret2
    exact Ret1.no HB.out
  · rw [Bool.true_and]
    obtain ⟨f1, f2, f3⟩ := hb2 rfl
    have g0 := h0.len
    have g1 := h1.len
    have g2 := h2.len
    have hv := Ln.vec_len f2
    obtain rfl : n2 = n1 := by omega
    have hn : 0 < n2 := by omega
    have C1 := Lib.hid k1
    by_cases he : n0 = n2
    · subst he
      have hl : (is.length == xs.length) = true := by rw [g0, g1]; simp
      rw [hl, Bool.true_and, g1]
      obtain ⟨q, hq⟩ : ∃ q : Nat, q = 2 * n0 := ⟨_, rfl⟩
      rw [← hq]
      have hq2 : 2 * (n0 : Int) = (q : Int) := by omega
      have hq3 : n0 + n0 = q := by omega
      have k2 := fun W (hb : Below w.heap.size w W) => areI_any q A0 n0 c0 is B0 W (by omega) hn0 (h0.below hb)
      obtain ⟨v, hv⟩ : ∃ v, v = Ln.idxs q is := ⟨_, rfl⟩
      rw [← hv]
      simp only [← hv] at k2
      have C2 := Lib.hid k2
      have e1 : ((n0 : Int) == (n0 : Int)) = true := by simp
      have e2 : ((n0 : Int) != (n0 : Int)) = false := by simp
      cases v
      · have hq4 : (q : Int) ≤ 4194304 := by omega
        clear k1 k2 hu f1 f2 f3 g0 g1 g2 hl hq hq3 h0 h1 h2 hv
        go_enter Try.func22, Try.ntmps22
        go_wp2_with fail
        refine C1.out.mono ?_
        rintro e w1 ⟨rfl, hb⟩
        have HB := Lib.hid hb; clear hb
        go_wp2_with fail
        refine (C2.out _ HB.out).mono ?_
        rintro e w2 ⟨rfl, hb⟩
        have HB2 := Lib.hid (HB.out.trans (hb.mono HB.out.size)); clear hb
        go_wp2_with fail
        go_ret2
        exact Ret1.no HB2.out
      · have hq4 : (q : Int) ≤ 4194304 := by omega
        obtain ⟨ad1, o1, rfl, _, _⟩ := h1.at_ hn
        obtain ⟨ad2, o2, rfl, _, _⟩ := h2.at_ hn
        have H0 := Lib.hid h0
        have H1 := Lib.hid h1
        have H2 := Lib.hid h2
        have HI := Lib.hid (show Ln.idxs (n0 + n0) is = true by rw [hq3]; exact hv.symm)
        have HL := Lib.hid (show (xs ++ ys).length = n0 + n0 by rw [List.length_append]; omega)
        have hn4 : n0 + n0 ≤ 4194304 := by omega
        clear k1 k2 hu f1 f2 f3 g0 g1 g2 hl hq hq3 h0 h1 h2 hv
        go_enter Try.func22, Try.ntmps22
        go_wp2_with fail
        refine C1.out.mono ?_
        rintro e w1 ⟨rfl, hb⟩
        have HB := Lib.hid hb; clear hb
        go_wp2_with fail
        refine (C2.out _ HB.out).mono ?_
        rintro e w2 ⟨rfl, hb⟩
        have HB2 := Lib.hid (HB.out.trans (hb.mono HB.out.size)); clear hb
        go_wp2_with fail
        refine (joined_any _ _ n0 n0 _ _ xs ys B1 B2 _ hn1 hn1 hn (H1.out.below HB2.out) (H2.out.below HB2.out)).mono ?_
        rintro e w3 ⟨g, rfl, hblk, hg, hb⟩
        have HJ := Lib.hid (Own.of_blk (n := n0 + n0) hblk HL.out (Nat.zero_le g)).rd
        have HB3 := Lib.hid (HB2.out.trans (hb.mono HB2.out.size)); clear hb hblk hg
        go_wp2_with fail
        refine (elems_any _ A0 (n0 + n0) n0 _ c0 (xs ++ ys) is _ B0 _ hn4 hn0 HJ.out (H0.out.below HB3.out) HI.out).mono ?_
        rintro e w4 ⟨A3, n3, c3, rfl, ho, hn3, hc3, hb⟩
        have HF := Lib.hid (And.intro (ho.more HB3.out.size (Nat.le_refl _)) (HB3.out.trans (hb.mono HB3.out.size))); clear ho hb
        go_wp2_with fail
        go_ret2
        exact ⟨A3, n3, c3, rfl, HF.out.1, hn3, HF.out.2⟩
    · have hl : (is.length == xs.length) = false := by rw [g0, g1]; simpa using he
      rw [hl, Bool.false_and]
      obtain ⟨e1, e2⟩ := (show ((n0 : Int) == (n2 : Int)) = false ∧ ((n0 : Int) != (n2 : Int)) = true from ⟨by simp; omega, by simp; omega⟩)
      clear k1 hu f1 f2 f3 g0 g1 g2 hl h0 h1 h2 he hv
      go_enter Try.func22, Try.ntmps22
      go_wp2_with fail
      refine C1.out.mono ?_
      rintro e w1 ⟨rfl, hb⟩
      have HB := Lib.hid hb; clear hb
      go_wp2_with fail
      go_ret2
      exact Ret1.no HB.out
set_option maxHeartbeats 1000000 in
theorem sPickLanes_any (b : Int) (A0 : Option Addr) (n0 c0 : Nat) (is : List Int) (B0 : Nat) (A1 : Option Addr) (n1 c1 : Nat) (xs : List Int) (B1 : Nat) (A2 : Option Addr) (n2 c2 : Nat) (ys : List Int) (B2 : Nat) (w : World)
    (hn0 : n0 ≤ 1048576) (hn1 : n1 ≤ 1048576) (hn2 : n2 ≤ 1048576) (h0 : Rd w B0 A0 n0 is) (h1 : Rd w B1 A1 n1 xs) (h2 : Rd w B2 A2 n2 ys) :
    Calls Try.prog 36 #[.int .i64 b, .slice A0 n0 c0, .slice A1 n1 c1, .slice A2 n2 c2] w (Ret1 (Ln.pick b is xs ys).1 (Ln.pick b is xs ys).2 w) := by
  obtain ⟨i0, hi0, hz0, hz1, hz2⟩ := info_parts A_info64
  have k1 := sBoth_any b A1 A2 n1 n2 c1 c2 xs ys B1 B2 w hn1 hn2 h1 h2
  have hb2 := fun (h : Ln.both b xs ys = true) => Ln.both_len h
  obtain ⟨P, hP⟩ : ∃ P, P = Ln.pick b is xs ys := ⟨_, rfl⟩
  rw [← hP]
  unfold Ln.pick at hP
  obtain ⟨u, hu⟩ : ∃ u, u = Ln.both b xs ys := ⟨_, rfl⟩
  rw [← hu] at k1 hb2 hP
  cases u
  · rw [Bool.false_and, Bool.false_and] at hP
    have HP := Lib.hid (show P = Ln.no from hP)
    have C1 := Lib.hid k1
    clear k1 hu hb2 h0 h1 h2 hP
    go_enter Try.func36, Try.ntmps36
    go_wp2_with fail
    refine C1.out.mono ?_
    rintro e w1 ⟨rfl, hb⟩
    have HB := Lib.hid hb; clear hb
    go_wp2_with fail
    go_ret2
    rw [HP.out]
    exact Ret1.no HB.out
  · rw [Bool.true_and] at hP
    obtain ⟨f1, f2, f3⟩ := hb2 rfl
    have g0 := h0.len
    have g1 := h1.len
    have g2 := h2.len
    have hv := Ln.vec_len f2
    obtain rfl : n2 = n1 := by omega
    have hn : 0 < n2 := by omega
    have C1 := Lib.hid k1
    by_cases he : n0 = n2
    · subst he
      have hl : (is.length == xs.length) = true := by rw [g0, g1]; simp
      rw [hl, Bool.true_and, g1] at hP
      obtain ⟨q, hq⟩ : ∃ q : Nat, q = 2 * n0 := ⟨_, rfl⟩
      rw [← hq] at hP
      have hq2 : 2 * (n0 : Int) = (q : Int) := by omega
      have hq3 : n0 + n0 = q := by omega
      have e1 : ((n0 : Int) == (n0 : Int)) = true := by simp
      have e2 : ((n0 : Int) != (n0 : Int)) = false := by simp
      have hq4 : (q : Int) ≤ 4194304 := by omega
      have hq5 : (1 : Int) ≤ (q : Int) := by omega
      have hq6 : (0 : Int) ≤ (q : Int) - 1 := by omega
      obtain ⟨ad1, o1, rfl, _, _⟩ := h1.at_ hn
      obtain ⟨ad2, o2, rfl, _, _⟩ := h2.at_ hn
      have H0 := Lib.hid h0
      have H1 := Lib.hid h1
      have H2 := Lib.hid h2
      have HP := Lib.hid hP
      have HL0 := Lib.hid g0
      have HQ3 := Lib.hid hq3
      have hn4 : n0 + n0 ≤ 4194304 := by omega
      clear k1 hu f1 f2 f3 g0 g1 g2 hl hq hq3 h0 h1 h2 hv hP
      go_enter Try.func36, Try.ntmps36
      go_wp2_with fail
      refine C1.out.mono ?_
      rintro e w1 ⟨rfl, hb⟩
      have HB := Lib.hid hb; clear hb
      go_wp2_with fail
      go_loopw [10] (fun i wr => ∃ k : Nat, k ≤ n0 ∧ i = .int .i64 k ∧ ((is.take k).all fun z => decide (0 ≤ z ∧ z < (q : Int))) = true ∧ Below w.heap.size w wr) (fun i _ => n0 - (intOf i).toNat)
      case atStart => exact ⟨0, Nat.zero_le _, rfl, by simp, HB.out⟩
      case round =>
        rename World => wr
        obtain ⟨k, hk, rfl, hall, hb⟩ := hrel
        by_cases hlt : k < n0
        · obtain ⟨g, o, rfl, hg, hd⟩ := (H0.out.below hb).at_ hlt
          have hsn := Ln.all_snoc (fun z => decide (0 ≤ z ∧ z < (q : Int))) is k (by rw [HL0.out]; exact hlt)
          rw [hall, Bool.true_and] at hsn
          have i1 : (0 : Int) ≤ (k : Int) := by omega
          have i2 : (k : Int) < (n0 : Int) := by omega
          by_cases hw : 0 ≤ is.getD k 0 ∧ is.getD k 0 < (q : Int)
          · rw [decide_eq_true hw] at hsn
            obtain ⟨z, hz⟩ : ∃ z, z = is.getD k 0 := ⟨_, rfl⟩
            rw [← hz] at hd hw
            have HS := Lib.hid hsn
            have HW := Lib.hid (show 0 ≤ z ∧ z ≤ (q : Int) - 1 by omega)
            have HB := Lib.hid hb; clear hz hb hsn hall hw
            go_wp2_with (go_at_call 69; refine (in_yes _ _ _ _ HW.out).mono ?_; rintro e w' ⟨rfl, rfl⟩)
            go_roundw
            case rel => exact ⟨k + 1, by omega, by go_num, HS.out, HB.out⟩
            case measure => simp [intOf]; omega
          · have hno : Ln.idxs q is = false := by
              unfold Ln.idxs
              rw [Ln.all_not (p := fun z => decide (0 ≤ z ∧ z < (q : Int))) (k := k) (by rw [HL0.out]; exact hlt) (decide_eq_false hw)]
            obtain ⟨z, hz⟩ : ∃ z, z = is.getD k 0 := ⟨_, rfl⟩
            rw [← hz] at hd hw
            have HS := Lib.hid hno
            have HW := Lib.hid (show ¬ (0 ≤ z ∧ z ≤ (q : Int) - 1) by omega)
            have HB := Lib.hid hb; clear hz hb hsn hall hw hno
            go_wp2_with (go_at_call 69; refine (in_no _ _ _ _ HW.out).mono ?_; rintro e w' ⟨rfl, rfl⟩)
            go_ret2
            rw [HP.out, HS.out]
            exact Ret1.no HB.out
        · have hi : Ln.idxs q is = true := by
            unfold Ln.idxs
            exact Ln.all_end (by rw [HL0.out]; omega) hall
          have HI := Lib.hid (show Ln.idxs (n0 + n0) is = true by rw [HQ3.out]; exact hi)
          have HPP := Lib.hid (show P = (Ln.pickL (xs ++ ys) is, true) by rw [HP.out, hi]; rfl)
          have HB := Lib.hid hb; clear hb hall hi
          go_wp2_with fail
          refine (sOwnR_any _ n0 _ xs B1 _ hn1 (H1.out.below HB.out)).mono ?_
          rintro e w3 ⟨v3, rfl, hown, hb⟩
          have HO3 := Lib.hid hown
          have HB3 := Lib.hid (HB.out.trans (hb.mono HB.out.size))
          have HS1 := Lib.hid hb.size
          have HS0 := Lib.hid HB.out.size
          clear hown hb
          go_wp2_with (at_builtin; refine wpList_append_list _ rfl _ _ rfl i0 Try.underlying25 hi0 hz0 hz1 hz2 wr.heap.size _ n0 xs rfl HO3.out B2 _ _ _ ys rfl (H2.out.below HB3.out) (by intro h; cases h) (by omega) HS1.out ?_; intro v' w4 hown4 hb4; obtain ⟨A4, c4, rfl, hc4, ho4⟩ := own_form hown4; have HO4 := Lib.hid ho4.rd; have HB4 := Lib.hid (HB3.out.trans (hb4.mono HS0.out)); clear hown4 hb4 ho4)
          refine (sApply_any A4 _ (n0 + n0) n0 c4 _ (xs ++ ys) is _ B0 _ hn4 hn0 HO4.out (H0.out.below HB4.out) HI.out).mono ?_
          rintro e w5 ⟨A3, n3, c3, rfl, ho, hn3, hc3, hb⟩
          have HF := Lib.hid (And.intro (ho.more HB4.out.size (Nat.le_refl _)) (HB4.out.trans (hb.mono HB4.out.size))); clear ho hb
          go_wp2_with fail
          go_ret2
          rw [HPP.out]
          exact ⟨A3, n3, c3, rfl, HF.out.1, hn3, HF.out.2⟩
    · have hl : (is.length == xs.length) = false := by rw [g0, g1]; simpa using he
      rw [hl, Bool.false_and] at hP
      have HP := Lib.hid (show P = Ln.no from hP)
      obtain ⟨e1, e2⟩ := (show ((n0 : Int) == (n2 : Int)) = false ∧ ((n0 : Int) != (n2 : Int)) = true from ⟨by simp; omega, by simp; omega⟩)
      clear k1 hu f1 f2 f3 g0 g1 g2 hl h0 h1 h2 he hv hP
      go_enter Try.func36, Try.ntmps36
      go_wp2_with fail
      refine C1.out.mono ?_
      rintro e w1 ⟨rfl, hb⟩
      have HB := Lib.hid hb; clear hb
      go_wp2_with fail
      go_ret2
      rw [HP.out]
      exact Ret1.no HB.out
end Go.Proofs.Ytfmplneopmbfoaa.Wds
