/-
  Rows with lanes exchanged at a distance: the model's function.
-/
import Derived.Test.YtokdddkbpmcfgaaTst
import Derived.Test.YtokdddkbpmcfgaaInv
namespace Go.Proofs.Ytokdddkbpmcfgaa.Wds
open Go.RowKit
set_option linter.unusedVariables false
theorem xorN (k f : Nat) (hk : k < 65536) (hf : f < 65536) : bits .xor .i64 (k : Int) (f : Int) = ((k ^^^ f : Nat) : Int) := by
  have := (Bts.three_i64 (k : Int) (f : Int) (by omega) (by omega) (by omega) (by omega)).2.2
  rw [Int.toNat_natCast, Int.toNat_natCast] at this
  exact this
theorem xor_in {n q : Nat} (D : Ln.Dst n q) {r : Nat} (hr : r < n) : r ^^^ q < n := by
  by_cases h : r &&& q = 0
  · have := D.2.1 r hr h; omega
  · have := D.2.2.1 r hr h; omega
/-- An element of the square with lanes exchanged, and a row of it. -/
def stepE (zss : List (List Int)) (q i s : Nat) : Int := if i &&& q ≠ s &&& q then Ln.el zss (i ^^^ q) (s ^^^ q) else Ln.el zss i s
def rowE (zss : List (List Int)) (n q i : Nat) : List Int := Ln.tab (stepE zss q i) n
/-- Which of the four distances a number is, as the tests ask. -/
def Asks (q : Nat) : Prop := ((q : Int) != 1) = false ∨ (((q : Int) != 1) = true ∧ ((q : Int) != 2) = false) ∨ (((q : Int) != 1) = true ∧ ((q : Int) != 2) = true ∧ ((q : Int) != 4) = false) ∨ (((q : Int) != 1) = true ∧ ((q : Int) != 2) = true ∧ ((q : Int) != 4) = true ∧ ((q : Int) != 8) = false)
set_option maxHeartbeats 4000000 in
set_option maxRecDepth 100000 in
theorem sTS_yes (b : Int) (A : Option Addr) (n c0 : Nat) (zss : List (List Int)) (B : Nat) (q : Nat) (w : World) (hn : Ln.totL zss ≤ 1048576) (h : RdR w B A n zss) (hok : Ln.rowsOk b zss = true) (hD : Ln.Dst n q) (hq : q < n) (ha : Asks q) :
    Calls Try.prog 53 #[.int .i64 b, .slice A n c0, .int .i64 q] w (Read1R (Ln.stepL zss n q) true w) := by
  obtain ⟨i0, hi0, hz0, hz1, hz2⟩ := info_parts A_infoR
  obtain ⟨j0, hj0, y0, y1, y2⟩ := info_parts A_info64
  have k1 := sRows_any b A n c0 zss B w hn h
  rw [hok] at k1
  obtain ⟨hl1, hl2, hrow⟩ := Ln.rowsOk_at hok
  have hl := h.len
  rw [hl] at hl1 hl2 hrow
  have hnn : n ≤ 16 := by have := Ln.lanes_cases hl1; omega
  have C1 := Lib.hid k1
  have HROW := Lib.hid hrow
  have HL := Lib.hid hl
  have H := Lib.hid h
  have HD := Lib.hid hD
  have hqn : decide (n ≤ q) = false := decide_eq_false (by omega)
  have hq2 : (q : Int) < (n : Int) := by omega
  have hq3 : (0 : Int) ≤ (q : Int) := by omega
  clear k1 hn h hok hD hl1 hrow hl
  unfold Asks at ha
  rcases ha with t1 | ⟨t1, t2⟩ | ⟨t1, t2, t3⟩ | ⟨t1, t2, t3, t4⟩
  all_goals
    go_enter Try.func53, Try.ntmps53
    go_wp2_with fail
    refine C1.out.mono ?_
    rintro e w1 ⟨rfl, hb⟩
    have HB1 := Lib.hid hb; clear hb
    go_wp2
    go_loopw [9, 10] (fun v i wr => PushesR (rowE zss n q) n w1 v i wr) (fun _ i _ => n - (intOf i).toNat)
    case atStart => exact PushesR.start _ _ _
    case round =>
      rename World => wo
      obtain ⟨i, vals, hi, rfl, hown, hv, hb⟩ := hrel
      by_cases hlt : i < n
      · have HO := Lib.hid hown
        have HV := Lib.hid hv
        have HB := Lib.hid hb
        have i1 : (0 : Int) ≤ (i : Int) := by omega
        have i2 : (i : Int) < (n : Int) := by omega
        clear hown hb hv
        go_wp2
        go_loopw [11, 12] (fun v kv wr => Pushes (stepE zss q i) n wo v kv wr) (fun _ kv _ => n - (intOf kv).toNat)
        case atStart => exact Pushes.start _ _ _
        case round =>
          rename World => wi
          obtain ⟨k, hk, rfl, hown, hb⟩ := hrel
          by_cases hlk : k < n
          · have a1 := and64 i q (by omega) (by omega)
            have a2 := and64 k q (by omega) (by omega)
            have x1 := xorN i q (by omega) (by omega)
            have x2 := xorN k q (by omega) (by omega)
            have p1 := xor_in HD.out hlt
            have p2 := xor_in HD.out hlk
            have HOI := Lib.hid hown
            have HBI := Lib.hid hb
            have hsz := hb.size
            have k1 : (0 : Int) ≤ (k : Int) := by omega
            have k2 : (k : Int) < (n : Int) := by omega
            by_cases hne : i &&& q = k &&& q
            · obtain ⟨g1, o1, R, m1, c1, rfl, hg1, hc1, _, hr1⟩ := (((H.out.below HB1.out).below HB.out).below hb).at_ hlt
              have hm1 := hr1.len
              rw [(HROW.out i hlt).1] at hm1
              subst hm1
              obtain ⟨g2, o2, rfl, hg2, hc2⟩ := hr1.at_ hlk
              obtain ⟨z, hz⟩ : ∃ z, z = Ln.el zss i k := ⟨_, rfl⟩
              rw [show (zss.getD i []).getD k 0 = z from hz.symm] at hc2
              have HZ := Lib.hid (show z = stepE zss q i k by rw [hz]; exact (if_neg (fun hh => hh hne)).symm)
              rw [← hne] at a2
              generalize i &&& q = r at a1 a2
              have e1 : ((r : Int) == (r : Int)) = true := by simp
              have e2 : ((r : Int) != (r : Int)) = false := by simp
              clear hz hown hb hr1 x1 x2 p1 p2 hne
              go_wp2_with (at_builtin; refine wpList_push _ rfl _ _ rfl j0 Try.underlying25 hj0 y0 y1 y2 _ _ _ _ _ rfl HOI.out rfl (by omega) hsz ?_; intro v' w3 hown1 hb1; have HO1 := Lib.hid hown1; have HBB := Lib.hid hb1; clear hown1 hb1)
              go_roundw
              case rel => exact Pushes.step hlk HBI.out _ HZ.out HO1.out HBB.out
              case measure => simp [intOf]; omega
            · have HZ := Lib.hid (show Ln.el zss (i ^^^ q) (k ^^^ q) = stepE zss q i k from (if_pos hne).symm)
              have e1 : (((i &&& q : Nat) : Int) == ((k &&& q : Nat) : Int)) = false := by simp; omega
              have e2 : (((i &&& q : Nat) : Int) != ((k &&& q : Nat) : Int)) = true := by simp; omega
              generalize i &&& q = r1 at a1 e1 e2
              generalize k &&& q = r2 at a2 e1 e2
              obtain ⟨s1, hs1⟩ : ∃ s, s = i ^^^ q := ⟨_, rfl⟩
              obtain ⟨s2, hs2⟩ : ∃ s, s = k ^^^ q := ⟨_, rfl⟩
              rw [← hs1] at x1 p1
              rw [← hs2] at x2 p2
              have HZ2 := Lib.hid (show Ln.el zss s1 s2 = stepE zss q i k by rw [hs1, hs2]; exact HZ.out)
              obtain ⟨g1, o1, R, m1, c1, rfl, hg1, hc1, _, hr1⟩ := (((H.out.below HB1.out).below HB.out).below hb).at_ p1
              have hm1 := hr1.len
              rw [(HROW.out s1 p1).1] at hm1
              subst hm1
              obtain ⟨g2, o2, rfl, hg2, hc2⟩ := hr1.at_ p2
              rw [show (zss.getD s1 []).getD s2 0 = Ln.el zss s1 s2 from rfl] at hc2
              have d1 : (s1 : Int) < (n : Int) := by omega
              have d2 : (s2 : Int) < (n : Int) := by omega
              have d3 : (0 : Int) ≤ (s1 : Int) := by omega
              have d4 : (0 : Int) ≤ (s2 : Int) := by omega
              clear hs1 hs2 hown hb hr1 hne HZ
              generalize Ln.el zss s1 s2 = z at hc2 HZ2
              go_wp2_with (at_builtin; refine wpList_push _ rfl _ _ rfl j0 Try.underlying25 hj0 y0 y1 y2 _ _ _ _ _ rfl HOI.out rfl (by omega) hsz ?_; intro v' w3 hown1 hb1; have HO1 := Lib.hid hown1; have HBB := Lib.hid hb1; clear hown1 hb1)
              go_roundw
              case rel => exact Pushes.step hlk HBI.out _ HZ2.out HO1.out HBB.out
              case measure => simp [intOf]; omega
          · have hkn : k = n := by omega
            subst hkn
            obtain ⟨A3, c3, rfl, hc3, ho3⟩ := own_form hown
            have HCOL := Lib.hid (show Own wi wo.heap.size wi.heap.size A3 k (rowE zss k q i) from ho3)
            have HOW := Lib.hid (rowB HO.out hb)
            have HVW := Lib.hid (HV.out.below hb)
            have HBW := Lib.hid (HB.out.trans (hb.mono HB.out.size))
            have hsz := HBW.out.size
            have hlo := HB.out.size
            clear hown hb ho3
            go_wp2_with (at_builtin; refine wpList_pushR _ rfl _ _ rfl i0 Try.underlying35 hi0 hz0 hz1 hz2 _ _ _ _ _ _ _ rfl HOW.out rfl (by omega) hsz ?_; intro v' w3 hown1 hb1 HK; have HO1 := Lib.hid hown1; have HBB := Lib.hid hb1; clear hown1 hb1)
            have HF := Lib.hid (show PushesR (rowE zss k q) k w1 v' (.int .i64 (i + 1 : Nat)) w3 from ⟨i + 1, _, by omega, rfl, HO1.out, HVW.out.push HK.out HBB.out.size hc3 (HK.out _ _ _ _ _ HCOL.out) hlo HBB.out.size, HBW.out.trans HBB.out⟩)
            go_roundw
            case rel => exact HF.out
            case measure => simp [intOf]; omega
      · have hkn : i = n := by omega
        subst hkn
        obtain ⟨A3, c3, rfl⟩ := owns_shape hown
        have HF := Lib.hid (And.intro hown (And.intro hb hv))
        clear hown hb hv
        go_wp2
        go_ret2
        obtain ⟨hown, hb, hv⟩ := HF.out
        exact ⟨A3, i, c3, rfl, hv.rdR hown rfl, HB1.out.trans (hb.mono HB1.out.size)⟩
set_option maxHeartbeats 1000000 in
set_option maxRecDepth 100000 in
theorem sTransposeStep_any (b : Int) (A : Option Addr) (n c0 : Nat) (zss : List (List Int)) (B : Nat) (f : Int) (w : World) (hn : Ln.totL zss ≤ 1048576) (h : RdR w B A n zss) :
    Calls Try.prog 53 #[.int .i64 b, .slice A n c0, .int .i64 f] w (Read1R (Ln.tstep b zss f).1 (Ln.tstep b zss f).2 w) := by
  have k1 := sRows_any b A n c0 zss B w hn h
  unfold Ln.tstep
  have hl := h.len
  rw [hl]
  obtain ⟨u, hu⟩ : ∃ u, u = Ln.rowsOk b zss := ⟨_, rfl⟩
  rw [← hu] at k1 ⊢
  have C1 := Lib.hid k1
  cases u
  · rw [Bool.false_and]
    clear k1 hu hn h hl
    go_enter Try.func53, Try.ntmps53
    go_wp2_with fail
    refine C1.out.mono ?_
    rintro e w1 ⟨rfl, hb⟩
    have HB := Lib.hid hb; clear hb
    go_wp2_with fail
    go_ret2
    exact Read1R.no HB.out
  · rw [Bool.true_and]
    obtain ⟨hl1, hl2, hrow⟩ := Ln.rowsOk_at hu.symm
    rw [hl] at hl1
    cases hv : Ln.dist n f
    · unfold Ln.dist Ln.isFar at hv
      by_cases h4 : f = 1 ∨ f = 2 ∨ f = 4 ∨ f = 8
      · have hge : (n : Int) ≤ f := by
          rw [Bool.and_eq_false_iff] at hv
          rcases hv with hv | hv
          · exfalso; simp at hv; omega
          · simpa using hv
        have hgd : decide ((n : Int) ≤ f) = true := decide_eq_true hge
        clear k1 hu hn h hl hl1 hl2 hrow hv
        rcases h4 with rfl | rfl | rfl | rfl
        all_goals
          go_enter Try.func53, Try.ntmps53
          go_wp2_with fail
          refine C1.out.mono ?_
          rintro e w1 ⟨rfl, hb⟩
          have HB := Lib.hid hb; clear hb
          go_wp2_with fail
          go_ret2
          exact Read1R.no HB.out
      · have t1 : (f != 1) = true := by simp; omega
        have t2 : (f != 2) = true := by simp; omega
        have t3 : (f != 4) = true := by simp; omega
        have t4 : (f != 8) = true := by simp; omega
        clear k1 hu hn h hl hl1 hl2 hrow hv h4
        go_enter Try.func53, Try.ntmps53
        go_wp2_with fail
        refine C1.out.mono ?_
        rintro e w1 ⟨rfl, hb⟩
        have HB := Lib.hid hb; clear hb
        go_wp2_with fail
        go_ret2
        exact Read1R.no HB.out
    · obtain ⟨hD, q, rfl, hq1, hq2⟩ := Ln.dst_of hl1 hv
      rw [Int.toNat_natCast] at hD ⊢
      refine sTS_yes b A n c0 zss B q w hn h hu.symm hD hq1 ?_
      simp only [Ln.dist, Ln.isFar, Bool.and_eq_true, Bool.or_eq_true, beq_iff_eq] at hv
      unfold Asks
      rcases hv.1 with ((e | e) | e) | e <;> rw [e] <;> decide
end Go.Proofs.Ytokdddkbpmcfgaa.Wds
