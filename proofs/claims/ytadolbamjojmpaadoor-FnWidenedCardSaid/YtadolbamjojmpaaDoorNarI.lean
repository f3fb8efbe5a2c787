/-
  Narrower vectors: the code's function, and both for all arguments.
-/
import Derived.Test.YtadolbamjojmpaaDoorNarS
namespace Go.Proofs.YtadolbamjojmpaaDoor.Wds
open Go.RowKit Go.Proofs.YtadolbamjojmpaaDoor.Err
set_option linter.unusedVariables false

theorem narrowed_any (b mode x : Int) (w : World) (hb : b = 8 ∨ b = 16) (hm : 0 ≤ mode ∧ mode ≤ 2) (hx : Wd.IsWord b x) (hg : ErrT w) :
    Calls Tryd.prog 25 #[.int .i64 b, .int .i64 x, .int .i64 mode] w fun e w' => e = .returned (.tuple #[.int .i64 (Ln.nf b mode x), .bool true]) ∧ Below w.heap.size w w' := by
  have hm3 : mode = 0 ∨ mode = 1 ∨ mode = 2 := by omega
  rcases hb with rfl | rfl <;> rcases hm3 with rfl | rfl | rfl
  · exact narrowed_8_0 x w hx hg
  · exact narrowed_8_1 x w hx hg
  · exact narrowed_8_2 x w hx hg
  · exact narrowed_16_0 x w hx hg
  · exact narrowed_16_1 x w hx hg
  · exact narrowed_16_2 x w hx hg
theorem narrowed_no (b mode x : Int) (w : World) (hb : b = 8 ∨ b = 16) (hm : ¬ (0 ≤ mode ∧ mode ≤ 2)) :
    Calls Tryd.prog 25 #[.int .i64 b, .int .i64 x, .int .i64 mode] w fun e w' => e = .returned (.tuple #[.int .i64 0, .bool false]) ∧ Below w.heap.size w w' := by
  have e0 : (mode == 0) = false := by rw [beq_eq_false_iff_ne]; omega
  have e1 : (mode == 1) = false := by rw [beq_eq_false_iff_ne]; omega
  have e2 : (mode == 2) = false := by rw [beq_eq_false_iff_ne]; omega
  have f0 : ¬ mode = 0 := by omega
  have f1 : ¬ mode = 1 := by omega
  have f2 : ¬ mode = 2 := by omega
  rcases hb with rfl | rfl
  all_goals
    clear hm
    go_enter Tryd.func25, Tryd.ntmps25
    go_wp2
    go_ret2
    exact ⟨rfl, by repeat (first | exact Below.refl _ _ | refine Below.drew ?_ | refine Below.alloc ?_ (by first | exact Nat.le_refl _ | (simp; done) | (simp; omega)) _ | refine Below.setCell ?_ (by simp) _)⟩
set_option maxRecDepth 100000 in
set_option maxHeartbeats 1000000 in
theorem iNar_yes (b mode : Int) (A1 A2 : Option Addr) (n c1 c2 : Nat) (xs ys : List Int) (B1 B2 : Nat) (w : World) (hbb : b = 8 ∨ b = 16) (hm : 0 ≤ mode ∧ mode ≤ 2) (hn : n ≤ 8) (hn0 : 0 < n) (h1 : Rd w B1 A1 n xs) (h2 : Rd w B2 A2 n ys) (hbo : Ln.both b xs ys = true) (hg : ErrT w) :
    Calls Tryd.prog 9 #[.int .i64 b, .slice A1 n c1, .slice A2 n c2, .int .i64 mode] w (Ret1 (Ln.tab (fun i => Ln.nf b mode ((xs ++ ys).getD i 0)) (n + n)) true w) := by
  have k1 := areVec_any b A1 A2 n n c1 c2 xs ys B1 B2 w (by omega) (by omega) h1 h2
  rw [hbo] at k1
  have hw0 := pair_words h1.len h2.len hbo
  have HL := Lib.hid (show (xs ++ ys).length = n + n by rw [List.length_append, h1.len, h2.len])
  obtain ⟨g1, o1, rfl, _, _⟩ := h1.at_ hn0
  obtain ⟨g2, o2, rfl, _, _⟩ := h2.at_ hn0
  have C1 := Lib.hid k1
  have H1 := Lib.hid h1
  have H2 := Lib.hid h2
  have CN := Lib.hid (fun (x : Int) (hx : Wd.IsWord b x) (W : World) (hbW : Below w.heap.size w W) => narrowed_any b mode x W hbb hm hx (hg.below hbW hg.lt))
  have HW := Lib.hid hw0
  have e4 : (b == 4) = false := by rw [beq_eq_false_iff_ne]; omega
  have f4 : ¬ b = 4 := by omega
  have i8 : ¬ (8 : Int) < (n : Int) := by omega
  have i9 : (n : Int) ≤ 8 := by omega
  obtain ⟨TL, hTL⟩ : ∃ t, t = Ln.tab (fun i => Ln.nf b mode ((xs ++ ys).getD i 0)) (n + n) := ⟨_, rfl⟩
  rw [← hTL]
  have HTL := Lib.hid hTL
  clear h1 h2 k1 hbo hTL hw0 hm hg hbb
  go_enter Tryd.func9, Tryd.ntmps9
  go_wp2_with fail
  refine C1.out.mono ?_
  rintro e w1 ⟨rfl, hb⟩
  have HB1 := Lib.hid hb; clear hb
  go_wp2_with fail
  refine (joined_any _ _ n n _ _ xs ys B1 B2 _ (by omega) (by omega) hn0 (H1.out.below HB1.out) (H2.out.below HB1.out)).mono ?_
  rintro e w3 ⟨g3, rfl, hbk, hgs, hb⟩
  generalize xs ++ ys = zl at HL HW HTL hbk
  have HBK := Lib.hid hbk
  have HGS := Lib.hid (Nat.le_trans HB1.out.size hgs)
  have HB3 := Lib.hid (HB1.out.trans (hb.mono HB1.out.size))
  clear hbk hb hgs
  obtain ⟨N, hN⟩ : ∃ N, N = n + n := ⟨_, rfl⟩
  rw [← hN] at HL HW HTL
  rw [← hN]
  have i10 : N ≤ 16 := by omega
  clear hN
  go_wp2_with fail
  go_loopw [34] (fun i wr => ∃ k : Nat, k ≤ N ∧ i = .int .i64 k ∧ Blk wr g3 (clls (Ln.over (fun i => Ln.nf b mode (zl.getD i 0)) zl k)) ∧ Below w.heap.size w wr) (fun i _ => N - (intOf i).toNat)
  case atStart => exact ⟨0, Nat.zero_le _, rfl, by rw [Ln.over_zero]; exact HBK.out, HB3.out⟩
  case round =>
    obtain ⟨k, hk, rfl, hblk, hb⟩ := hrel
    by_cases hlt : k < N
    · have hkl : k < zl.length := by rw [HL.out]; exact hlt
      have HS := Lib.hid (Ln.over_set (fun i => Ln.nf b mode (zl.getD i 0)) zl k hkl)
      have hcc : wr.cell? ⟨g3, k, none⟩ = some (.int .i64 (zl.getD k 0)) := by
        have h := (hblk.cell k).trans (clls_get (by rw [Ln.over_len]; exact hkl))
        rw [Ln.over_at _ _ _ _ hkl, if_neg (Nat.lt_irrefl k)] at h
        exact h
      have hxw := HW.out k hlt
      obtain ⟨x, hx⟩ : ∃ z, z = zl.getD k 0 := ⟨_, rfl⟩
      obtain ⟨r, hr⟩ : ∃ z, z = Ln.nf b mode x := ⟨_, rfl⟩
      rw [← hx] at hcc hxw
      have CE := Lib.hid (show ∀ W, Below w.heap.size w W → Calls Tryd.prog 25 #[.int .i64 b, .int .i64 x, .int .i64 mode] W fun e w' => e = .returned (.tuple #[.int .i64 r, .bool true]) ∧ Below W.heap.size W w' from fun W hbW => by rw [hr]; exact CN.out x hxw W hbW)
      obtain ⟨v0, hv0⟩ : ∃ v, clls (Ln.over (fun i => Ln.nf b mode (zl.getD i 0)) zl k) = v := ⟨_, rfl⟩
      have hv1 : ∃ u, v0[k]? = some u := ⟨_, by rw [← hv0]; exact clls_get (by rw [Ln.over_len]; exact hkl)⟩
      obtain ⟨u0, hu0⟩ := hv1
      rw [hv0] at hblk
      have HX := Lib.hid (And.intro hx (And.intro hr hv0))
      have HU := Lib.hid hu0
      have HBL := Lib.hid hblk
      have HB := Lib.hid hb
      have j1 : (0 : Int) ≤ (k : Int) := by omega
      have j2 : (k : Int) < (N : Int) := by omega
      clear hx hr hxw hb hblk hkl hu0 hv0
      go_wp2_with fail
      refine (CE.out _ HB.out).mono ?_
      rintro e w5 ⟨rfl, hb5⟩
      have hk5 := HBL.out.keep hb5
      have hf5 := hk5.frozen k
      have hc5 : w5.cell? ⟨g3, k, none⟩ = some u0 := (hk5.cell k).trans HU.out
      have HBK5 := Lib.hid hk5
      have HB5 := Lib.hid (HB.out.trans (hb5.mono HB.out.size))
      clear hb5 hk5 hcc
      go_wp2
      go_roundw
      case rel =>
        obtain ⟨a, c, d⟩ := HX.out
        have hs : (Ln.over (fun i => Ln.nf b mode (zl.getD i 0)) zl k).set k r = Ln.over (fun i => Ln.nf b mode (zl.getD i 0)) zl (k + 1) := by rw [c, a]; exact HS.out
        have hst := HBK5.out.set_ k (.int .i64 r)
        rw [← d, clls_set, hs] at hst
        exact ⟨k + 1, by omega, by go_num, hst, HB5.out.setCell (p := ⟨g3, k, none⟩) HGS.out _⟩
      case measure => simp [intOf]; omega
    · have hkn : k = N := by omega
      have HF := Lib.hid (And.intro hblk (And.intro hb hkn))
      have i11 : ¬ (k : Int) < (N : Int) := by omega
      clear hblk hb hkn
      go_wp2
      go_ret2
      obtain ⟨hblk, hb, rfl⟩ := HF.out
      rw [HTL.out]
      rw [← HL.out, Ln.over_all] at hblk
      rw [← HL.out]
      exact Ret1.of_blk hblk (Ln.tab_len _ _) HGS.out (by rw [HL.out]; omega) hb
set_option maxRecDepth 100000 in
set_option maxHeartbeats 1000000 in
theorem iNar_bad (b mode : Int) (A1 A2 : Option Addr) (n c1 c2 : Nat) (xs ys : List Int) (B1 B2 : Nat) (w : World) (hbb : b = 8 ∨ b = 16) (hm : ¬ (0 ≤ mode ∧ mode ≤ 2)) (hn : n ≤ 8) (hn0 : 0 < n) (h1 : Rd w B1 A1 n xs) (h2 : Rd w B2 A2 n ys) (hbo : Ln.both b xs ys = true) :
    Calls Tryd.prog 9 #[.int .i64 b, .slice A1 n c1, .slice A2 n c2, .int .i64 mode] w (Ret1 Ln.no.1 Ln.no.2 w) := by
  have k1 := areVec_any b A1 A2 n n c1 c2 xs ys B1 B2 w (by omega) (by omega) h1 h2
  rw [hbo] at k1
  have HL := Lib.hid (show (xs ++ ys).length = n + n by rw [List.length_append, h1.len, h2.len])
  obtain ⟨g1, o1, rfl, _, _⟩ := h1.at_ hn0
  obtain ⟨g2, o2, rfl, _, _⟩ := h2.at_ hn0
  have C1 := Lib.hid k1
  have H1 := Lib.hid h1
  have H2 := Lib.hid h2
  have CN := Lib.hid (fun (x : Int) (W : World) => narrowed_no b mode x W hbb hm)
  have e4 : (b == 4) = false := by rw [beq_eq_false_iff_ne]; omega
  have f4 : ¬ b = 4 := by omega
  have i8 : ¬ (8 : Int) < (n : Int) := by omega
  have i9 : (n : Int) ≤ 8 := by omega
  clear h1 h2 k1 hbo hm hbb
  go_enter Tryd.func9, Tryd.ntmps9
  go_wp2_with fail
  refine C1.out.mono ?_
  rintro e w1 ⟨rfl, hb⟩
  have HB1 := Lib.hid hb; clear hb
  go_wp2_with fail
  refine (joined_any _ _ n n _ _ xs ys B1 B2 _ (by omega) (by omega) hn0 (H1.out.below HB1.out) (H2.out.below HB1.out)).mono ?_
  rintro e w3 ⟨g3, rfl, hbk, hgs, hb⟩
  have HB3 := Lib.hid (HB1.out.trans (hb.mono HB1.out.size))
  have hc0 : w3.cell? ⟨g3, 0, none⟩ = some (.int .i64 ((xs ++ ys).getD 0 0)) := (hbk.cell 0).trans (clls_get (by rw [HL.out]; omega))
  obtain ⟨x, hx⟩ : ∃ z, z = (xs ++ ys).getD 0 0 := ⟨_, rfl⟩
  rw [← hx] at hc0
  have HC0 := Lib.hid hc0
  clear hbk hb hgs hx hc0
  obtain ⟨N, hN⟩ : ∃ N, N = n + n := ⟨_, rfl⟩
  rw [← hN]
  have i10 : N ≤ 16 := by omega
  have i11 : (0 : Int) < (N : Int) := by omega
  clear hN
  go_wp2_with fail
  go_loopw [34] (fun i wr => i = .int .i64 0 ∧ wr = w3) (fun i _ => 0)
  case atStart => exact ⟨rfl, rfl⟩
  case round =>
    obtain ⟨rfl, rfl⟩ := hrel
    have hc0 := HC0.out
    go_wp2_with fail
    refine (CN.out _ _).mono ?_
    rintro e w5 ⟨rfl, hb5⟩
    have HB5 := Lib.hid (HB3.out.trans (hb5.mono HB3.out.size))
    clear hb5 hc0
    go_wp2
    go_ret2
    exact Ret1.no HB5.out
theorem narOk_no {b : Int} {xs ys : List Int} {mode : Int} (h : ¬ (Ln.both b xs ys = true ∧ b ≠ 4 ∧ ¬ (8 < (xs.length : Int)) ∧ (0 ≤ mode ∧ mode ≤ 2))) : Ln.narOk b xs ys mode = false := by
  cases e : Ln.narOk b xs ys mode with
  | false => rfl
  | true =>
    refine absurd ?_ h
    unfold Ln.narOk at e
    simp only [Bool.and_eq_true, Bool.not_eq_true', beq_eq_false_iff_ne, decide_eq_false_iff_not, decide_eq_true_eq] at e
    exact e
theorem narOk_yes {b : Int} {xs ys : List Int} {mode : Int} (h : Ln.both b xs ys = true ∧ b ≠ 4 ∧ ¬ (8 < (xs.length : Int)) ∧ (0 ≤ mode ∧ mode ≤ 2)) : Ln.narOk b xs ys mode = true := by
  unfold Ln.narOk
  simp only [Bool.and_eq_true, Bool.not_eq_true', beq_eq_false_iff_ne, decide_eq_false_iff_not, decide_eq_true_eq]
  exact h
theorem bits_wide {b : Int} (h : Wd.IsBits b) (h4 : b ≠ 4) : b = 8 ∨ b = 16 := by unfold Wd.IsBits at h; omega
theorem sNarrowLanes_any (b : Int) (A1 : Option Addr) (n1 c1 : Nat) (xs : List Int) (B1 : Nat) (A2 : Option Addr) (n2 c2 : Nat) (ys : List Int) (B2 : Nat) (mode : Int) (w : World)
    (hn1 : n1 ≤ 1048576) (hn2 : n2 ≤ 1048576) (h1 : Rd w B1 A1 n1 xs) (h2 : Rd w B2 A2 n2 ys) :
    Calls Tryd.prog 12 #[.int .i64 b, .slice A1 n1 c1, .slice A2 n2 c2, .int .i64 mode] w (Ret1 (Ln.narrow b xs ys mode).1 (Ln.narrow b xs ys mode).2 w) := by
  have k1 := sBoth_any b A1 A2 n1 n2 c1 c2 xs ys B1 B2 w hn1 hn2 h1 h2
  have g1 := h1.len
  have g2 := h2.len
  unfold Ln.narrow
  by_cases hall : Ln.both b xs ys = true ∧ b ≠ 4 ∧ ¬ (8 < (xs.length : Int)) ∧ (0 ≤ mode ∧ mode ≤ 2)
  · rw [narOk_yes hall]
    obtain ⟨hbo, h4, h8, hm⟩ := hall
    obtain ⟨f1, f2, f3⟩ := Ln.both_len hbo
    have fl := Ln.vec_len f2
    obtain rfl : n2 = n1 := by omega
    rw [g1]
    have hm3 : mode = 0 ∨ mode = 1 ∨ mode = 2 := by omega
    rcases bits_wide (Ln.vec_bits f2) h4 with rfl | rfl <;> rcases hm3 with rfl | rfl | rfl
    · exact sNar_8_0 A1 A2 n2 c1 c2 xs ys B1 B2 w (by omega) (by omega) h1 h2 hbo
    · exact sNar_8_1 A1 A2 n2 c1 c2 xs ys B1 B2 w (by omega) (by omega) h1 h2 hbo
    · exact sNar_8_2 A1 A2 n2 c1 c2 xs ys B1 B2 w (by omega) (by omega) h1 h2 hbo
    · exact sNar_16_0 A1 A2 n2 c1 c2 xs ys B1 B2 w (by omega) (by omega) h1 h2 hbo
    · exact sNar_16_1 A1 A2 n2 c1 c2 xs ys B1 B2 w (by omega) (by omega) h1 h2 hbo
    · exact sNar_16_2 A1 A2 n2 c1 c2 xs ys B1 B2 w (by omega) (by omega) h1 h2 hbo
  · rw [narOk_no hall]
    by_cases hbo : Ln.both b xs ys = true
    · rw [hbo] at k1
      have C1 := Lib.hid k1
      by_cases h4 : b = 4
      · subst h4
        clear k1 h1 h2 hall hbo g1 g2 hn1 hn2
        go_enter Tryd.func12, Tryd.ntmps12
        go_wp2_with fail
        refine C1.out.mono ?_
        rintro e w1 ⟨rfl, hb⟩
        have HB1 := Lib.hid hb; clear hb
        go_wp2_with fail
        go_ret2
        exact Ret1.no HB1.out
      · have e4 : (b == 4) = false := by rw [beq_eq_false_iff_ne]; exact h4
        by_cases h8 : 8 < (n1 : Int)
        · clear k1 h1 h2 hall hbo g1 g2
          go_enter Tryd.func12, Tryd.ntmps12
          go_wp2_with fail
          refine C1.out.mono ?_
          rintro e w1 ⟨rfl, hb⟩
          have HB1 := Lib.hid hb; clear hb
          go_wp2_with fail
          go_ret2
          exact Ret1.no HB1.out
        · have hm : ¬ (0 ≤ mode ∧ mode ≤ 2) := fun hm => hall ⟨hbo, h4, by rw [g1]; exact h8, hm⟩
          have CI := Lib.hid (fun W => in_no mode 0 2 W hm)
          have i9 : (n1 : Int) ≤ 8 := by omega
          clear k1 h1 h2 hall hbo g1 g2 hm
          go_enter Tryd.func12, Tryd.ntmps12
          go_wp2_with fail
          refine C1.out.mono ?_
          rintro e w1 ⟨rfl, hb⟩
          have HB1 := Lib.hid hb; clear hb
          go_wp2_with fail
          refine (CI.out _).mono ?_
          rintro e w2 ⟨rfl, rfl⟩
          go_wp2_with fail
          go_ret2
          exact Ret1.no HB1.out
    · have hb' : Ln.both b xs ys = false := by simpa using hbo
      rw [hb'] at k1
      have C1 := Lib.hid k1
      clear k1 h1 h2 hall hbo hb' g1 g2
      go_enter Tryd.func12, Tryd.ntmps12
      go_wp2_with fail
      refine C1.out.mono ?_
      rintro e w1 ⟨rfl, hb⟩
      have HB1 := Lib.hid hb; clear hb
      go_wp2_with fail
      go_ret2
      exact Ret1.no HB1.out
theorem iNarrowLanes_any (b : Int) (A1 : Option Addr) (n1 c1 : Nat) (xs : List Int) (B1 : Nat) (A2 : Option Addr) (n2 c2 : Nat) (ys : List Int) (B2 : Nat) (mode : Int) (w : World)
    (hn1 : n1 ≤ 1048576) (hn2 : n2 ≤ 1048576) (h1 : Rd w B1 A1 n1 xs) (h2 : Rd w B2 A2 n2 ys) (hg : ErrT w) :
    Calls Tryd.prog 9 #[.int .i64 b, .slice A1 n1 c1, .slice A2 n2 c2, .int .i64 mode] w (Ret1 (Ln.narrow b xs ys mode).1 (Ln.narrow b xs ys mode).2 w) := by
  have k1 := areVec_any b A1 A2 n1 n2 c1 c2 xs ys B1 B2 w hn1 hn2 h1 h2
  have g1 := h1.len
  have g2 := h2.len
  unfold Ln.narrow
  by_cases h4 : b = 4
  · rw [narOk_no (fun h => h.2.1 h4)]
    subst h4
    clear k1 h1 h2 g1 g2 hg hn1 hn2
    go_enter Tryd.func9, Tryd.ntmps9
    go_wp2_with fail
    go_ret2
    exact Ret1.no (Below.refl _ _)
  · have e4 : (b == 4) = false := by rw [beq_eq_false_iff_ne]; exact h4
    by_cases h8 : 8 < (n1 : Int)
    · rw [narOk_no (fun h => h.2.2.1 (by rw [g1]; exact h8))]
      clear k1 h1 h2 g1 g2 hg
      go_enter Tryd.func9, Tryd.ntmps9
      go_wp2_with fail
      go_ret2
      exact Ret1.no (Below.refl _ _)
    · by_cases hbo : Ln.both b xs ys = true
      · obtain ⟨f1, f2, f3⟩ := Ln.both_len hbo
        have fl := Ln.vec_len f2
        obtain rfl : n2 = n1 := by omega
        by_cases hm : 0 ≤ mode ∧ mode ≤ 2
        · rw [narOk_yes ⟨hbo, h4, by rw [g1]; exact h8, hm⟩, g1]
          exact iNar_yes b mode A1 A2 n2 c1 c2 xs ys B1 B2 w (bits_wide (Ln.vec_bits f2) h4) hm (by omega) (by omega) h1 h2 hbo hg
        · rw [narOk_no (fun h => hm h.2.2.2)]
          exact iNar_bad b mode A1 A2 n2 c1 c2 xs ys B1 B2 w (bits_wide (Ln.vec_bits f2) h4) hm (by omega) (by omega) h1 h2 hbo
      · rw [narOk_no (fun h => hbo h.1)]
        have hb' : Ln.both b xs ys = false := by simpa using hbo
        rw [hb'] at k1
        have C1 := Lib.hid k1
        have i9 : (n1 : Int) ≤ 8 := by omega
        clear k1 h1 h2 hbo hb' g1 g2 hg h4
        go_enter Tryd.func9, Tryd.ntmps9
        go_wp2_with fail
        refine C1.out.mono ?_
        rintro e w1 ⟨rfl, hb⟩
        have HB1 := Lib.hid hb; clear hb
        go_wp2_with fail
        go_ret2
        exact Ret1.no HB1.out
end Go.Proofs.YtadolbamjojmpaaDoor.Wds
