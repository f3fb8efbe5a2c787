/-
  Narrower vectors: the model's function and the code's; one contract each.
-/
import Derived.Test.YtadolbamjojmpaaDoorNar
import Derived.Test.YtadolbamjojmpaaDoorCpy
import Derived.Test.YtadolbamjojmpaaDoorPush
import Derived.Test.YtadolbamjojmpaaDoorLan2
namespace Go.Proofs.YtadolbamjojmpaaDoor.Wds
open Go.RowKit Go.Proofs.YtadolbamjojmpaaDoor.Err
set_option linter.unusedVariables false

theorem pair_words {b : Int} {xs ys : List Int} {n : Nat} (hl : xs.length = n) (hl2 : ys.length = n) (h : Ln.both b xs ys = true) : ∀ k, k < n + n → Wd.IsWord b ((xs ++ ys).getD k 0) := by
  obtain ⟨_, h1, h2⟩ := Ln.both_len h
  intro k hk
  by_cases hx : k < xs.length
  · rw [List.getD_eq_getElem?_getD, List.getElem?_append_left hx, ← List.getD_eq_getElem?_getD]; exact Ln.vec_word h1 hx
  · rw [List.getD_eq_getElem?_getD, List.getElem?_append_right (by omega), ← List.getD_eq_getElem?_getD]; exact Ln.vec_word h2 (by omega)
theorem nf_1 {b x : Int} (hh : Wd.IsBits (b / 2)) (hx : 0 ≤ x) : Wd.wr (b / 2) (mn x (Wd.pw (b / 2) - 1)) = Ln.nf b 1 x := by
  have h1 : Ln.nf b 1 x = if x < Wd.pw (b / 2) - 1 then x else Wd.pw (b / 2) - 1 := rfl
  rw [h1]
  unfold mn
  have hp := pw_bd hh
  split
  · exact wr_id _ _ ⟨hx, by omega⟩
  · exact wr_id _ _ ⟨by omega, by omega⟩
theorem nf_2 {b x : Int} (hh : Wd.IsBits (b / 2)) : Wd.wr (b / 2) (btw (Wd.sg b x) (- Wd.hf (b / 2)) (Wd.hf (b / 2) - 1)) = Ln.nf b 2 x := by
  have h1 : Ln.nf b 2 x = Wd.wr (b / 2) (Wd.cl (b / 2) (Wd.sg b x)) := rfl
  rw [h1, btw_cl _ _ (by have := pw_bd hh; omega)]

set_option maxRecDepth 100000 in
set_option maxHeartbeats 1000000 in
theorem sNar_8_0 (A1 A2 : Option Addr) (n c1 c2 : Nat) (xs ys : List Int) (B1 B2 : Nat) (w : World) (hn : n ≤ 8) (hn0 : 0 < n) (h1 : Rd w B1 A1 n xs) (h2 : Rd w B2 A2 n ys) (hbo : Ln.both 8 xs ys = true) :
    Calls Tryd.prog 12 #[.int .i64 8, .slice A1 n c1, .slice A2 n c2, .int .i64 0] w (Ret1 (Ln.tab (fun i => Ln.nf 8 0 ((xs ++ ys).getD i 0)) (n + n)) true w) := by
  obtain ⟨i0, hi, hz0, hz1, hz2⟩ := info_parts A_info64
  have k1 := sBoth_any 8 A1 A2 n n c1 c2 xs ys B1 B2 w (by omega) (by omega) h1 h2
  rw [hbo] at k1
  have HW := Lib.hid (pair_words h1.len h2.len hbo)
  obtain ⟨g1, o1, rfl, _, _⟩ := h1.at_ hn0
  obtain ⟨g2, o2, rfl, _, _⟩ := h2.at_ hn0
  have C1 := Lib.hid k1
  have CI := Lib.hid (fun W => in_yes 0 0 2 W (by omega))
  have H1 := Lib.hid h1
  have H2 := Lib.hid h2
  obtain ⟨zl, hzl⟩ : ∃ zl, zl = xs ++ ys := ⟨_, rfl⟩
  rw [← hzl] at HW ⊢
  have HZL := Lib.hid hzl
  obtain ⟨TL, hTL⟩ : ∃ t, t = Ln.tab (fun i => Ln.nf 8 0 (zl.getD i 0)) (n + n) := ⟨_, rfl⟩
  rw [← hTL]
  have HTL := Lib.hid hTL; clear hTL
  have i8 : ¬ (8 : Int) < (n : Int) := by omega
  have i9 : (n : Int) ≤ 8 := by omega
  clear h1 h2 k1 hbo hzl
  go_enter Tryd.func12, Tryd.ntmps12
  go_wp2_with fail
  refine C1.out.mono ?_
  rintro e w1 ⟨rfl, hb⟩
  have HB1 := Lib.hid hb; clear hb
  have HS1 := Lib.hid HB1.out.size
  go_wp2_with fail
  refine (CI.out _).mono ?_
  rintro e w2 ⟨rfl, rfl⟩
  go_wp2_with fail
  refine (sOwnR_any _ n _ xs B1 _ (by omega) (H1.out.below HB1.out)).mono ?_
  rintro e w3 ⟨v3, rfl, hown, hb⟩
  have HO3 := Lib.hid hown
  have HB3 := Lib.hid (HB1.out.trans (hb.mono HB1.out.size))
  have HS3 := Lib.hid hb.size
  clear hown hb
  go_wp2_with (at_builtin; refine wpList_append_list _ rfl _ _ rfl i0 Tryd.underlying25 hi hz0 hz1 hz2 w1.heap.size _ n xs rfl HO3.out B2 _ _ _ ys rfl (H2.out.below HB3.out) (by intro h; cases h) (by omega) HS3.out ?_; intro v' w4 hown4 hb4; obtain ⟨g4, c4, rfl, hc4, ho4⟩ := own_some hown4 (by omega); have HO4 := Lib.hid ho4; have HB4 := Lib.hid (HB3.out.trans (hb4.mono HS1.out)); clear hown4 hb4 ho4)
  rw [← HZL.out] at HO4
  have HR := Lib.hid HO4.out.rd
  obtain ⟨N, hN⟩ : ∃ N, N = n + n := ⟨_, rfl⟩
  rw [← hN] at HR HO4 HW hc4
  rw [← hN]
  have HNN := Lib.hid hN
  have i10 : N ≤ 16 := by omega
  clear hN
  go_loopw [12, 13] (fun v i wr => Pushes (fun i => Ln.nf 8 0 (zl.getD i 0)) N w4 v i wr) (fun _ i _ => N - (intOf i).toNat)
  case atStart => exact Pushes.start _ _ _
  case round =>
    obtain ⟨k, hk, rfl, hown, hb⟩ := hrel
    have HO := Lib.hid hown
    have HB := Lib.hid hb; clear hown hb
    by_cases hlt : k < N
    · obtain ⟨g', o', e', _, hc⟩ := HR.out.at_ hlt
      injection e' with e'; injection e' with e1 e2; subst e1; subst e2
      rw [Nat.zero_add] at hc
      have hd := (HB.out.cell (p := ⟨g4, k, none⟩) (World.block_lt_of_cell? w4 _ hc)).trans hc
      have hxw := HW.out k hlt
      obtain ⟨x, hx⟩ : ∃ z, z = zl.getD k 0 := ⟨_, rfl⟩
      rw [← hx] at hd hxw
      obtain ⟨r, hr⟩ : ∃ z, z = Ln.nf 8 0 x := ⟨_, rfl⟩
      have CW := Lib.hid (show ∀ W, Calls Tryd.prog 34 #[.int .i64 4, .int .i64 x] W fun e w' => e = .returned (.int .i64 r) ∧ W = w' from fun W => by rw [hr]; exact swrap_any 4 x W (by unfold Wd.IsBits; omega))
      have HX := Lib.hid (And.intro hx hr)
      have j1 : (0 : Int) ≤ (k : Int) := by omega
      have j2 : (k : Int) < (N : Int) := by omega
      clear hx hr hxw hc
      go_wp2_with fail
      refine (CW.out _).mono ?_
      rintro e w5 ⟨rfl, rfl⟩
      go_wp2_with (at_builtin; refine wpList_push _ rfl _ _ rfl i0 Tryd.underlying25 hi hz0 hz1 hz2 _ _ _ _ _ rfl HO.out rfl (by omega) HB.out.size ?_; intro v' w6 hown1 hb1; have HO1 := Lib.hid hown1; have HB5 := Lib.hid hb1; clear hown1 hb1)
      go_roundw
      case rel => exact Pushes.step hlt HB.out _ (by obtain ⟨a, b⟩ := HX.out; rw [b, a]) HO1.out HB5.out
      case measure => simp [intOf]; omega
    · have hkn : k = N := by omega
      have HK := Lib.hid hkn
      have i11 : ¬ (k : Int) < (N : Int) := by omega
      clear hkn
      go_wp2
      go_ret2
      have hkk := HK.out
      subst hkk
      obtain ⟨A, c, rfl, hc, ho⟩ := own_form HO.out
      exact ⟨A, k, c, rfl, by rw [HTL.out, ← HNN.out]; exact ho.more HB4.out.size (Nat.le_refl _), by omega, HB4.out.trans (HB.out.mono HB4.out.size)⟩

set_option maxRecDepth 100000 in
set_option maxHeartbeats 1000000 in
theorem sNar_8_1 (A1 A2 : Option Addr) (n c1 c2 : Nat) (xs ys : List Int) (B1 B2 : Nat) (w : World) (hn : n ≤ 8) (hn0 : 0 < n) (h1 : Rd w B1 A1 n xs) (h2 : Rd w B2 A2 n ys) (hbo : Ln.both 8 xs ys = true) :
    Calls Tryd.prog 12 #[.int .i64 8, .slice A1 n c1, .slice A2 n c2, .int .i64 1] w (Ret1 (Ln.tab (fun i => Ln.nf 8 1 ((xs ++ ys).getD i 0)) (n + n)) true w) := by
  obtain ⟨i0, hi, hz0, hz1, hz2⟩ := info_parts A_info64
  have k1 := sBoth_any 8 A1 A2 n n c1 c2 xs ys B1 B2 w (by omega) (by omega) h1 h2
  rw [hbo] at k1
  have HW := Lib.hid (pair_words h1.len h2.len hbo)
  obtain ⟨g1, o1, rfl, _, _⟩ := h1.at_ hn0
  obtain ⟨g2, o2, rfl, _, _⟩ := h2.at_ hn0
  have C1 := Lib.hid k1
  have CI := Lib.hid (fun W => in_yes 1 0 2 W (by omega))
  have H1 := Lib.hid h1
  have H2 := Lib.hid h2
  obtain ⟨zl, hzl⟩ : ∃ zl, zl = xs ++ ys := ⟨_, rfl⟩
  rw [← hzl] at HW ⊢
  have HZL := Lib.hid hzl
  obtain ⟨TL, hTL⟩ : ∃ t, t = Ln.tab (fun i => Ln.nf 8 1 (zl.getD i 0)) (n + n) := ⟨_, rfl⟩
  rw [← hTL]
  have HTL := Lib.hid hTL; clear hTL
  have i8 : ¬ (8 : Int) < (n : Int) := by omega
  have i9 : (n : Int) ≤ 8 := by omega
  clear h1 h2 k1 hbo hzl
  go_enter Tryd.func12, Tryd.ntmps12
  go_wp2_with fail
  refine C1.out.mono ?_
  rintro e w1 ⟨rfl, hb⟩
  have HB1 := Lib.hid hb; clear hb
  have HS1 := Lib.hid HB1.out.size
  go_wp2_with fail
  refine (CI.out _).mono ?_
  rintro e w2 ⟨rfl, rfl⟩
  go_wp2_with fail
  refine (sOwnR_any _ n _ xs B1 _ (by omega) (H1.out.below HB1.out)).mono ?_
  rintro e w3 ⟨v3, rfl, hown, hb⟩
  have HO3 := Lib.hid hown
  have HB3 := Lib.hid (HB1.out.trans (hb.mono HB1.out.size))
  have HS3 := Lib.hid hb.size
  clear hown hb
  go_wp2_with (at_builtin; refine wpList_append_list _ rfl _ _ rfl i0 Tryd.underlying25 hi hz0 hz1 hz2 w1.heap.size _ n xs rfl HO3.out B2 _ _ _ ys rfl (H2.out.below HB3.out) (by intro h; cases h) (by omega) HS3.out ?_; intro v' w4 hown4 hb4; obtain ⟨g4, c4, rfl, hc4, ho4⟩ := own_some hown4 (by omega); have HO4 := Lib.hid ho4; have HB4 := Lib.hid (HB3.out.trans (hb4.mono HS1.out)); clear hown4 hb4 ho4)
  rw [← HZL.out] at HO4
  have HR := Lib.hid HO4.out.rd
  obtain ⟨N, hN⟩ : ∃ N, N = n + n := ⟨_, rfl⟩
  rw [← hN] at HR HO4 HW hc4
  rw [← hN]
  have HNN := Lib.hid hN
  have i10 : N ≤ 16 := by omega
  clear hN
  go_loopw [12, 13] (fun v i wr => Pushes (fun i => Ln.nf 8 1 (zl.getD i 0)) N w4 v i wr) (fun _ i _ => N - (intOf i).toNat)
  case atStart => exact Pushes.start _ _ _
  case round =>
    obtain ⟨k, hk, rfl, hown, hb⟩ := hrel
    have HO := Lib.hid hown
    have HB := Lib.hid hb; clear hown hb
    by_cases hlt : k < N
    · obtain ⟨g', o', e', _, hc⟩ := HR.out.at_ hlt
      injection e' with e'; injection e' with e1 e2; subst e1; subst e2
      rw [Nat.zero_add] at hc
      have hd := (HB.out.cell (p := ⟨g4, k, none⟩) (World.block_lt_of_cell? w4 _ hc)).trans hc
      have hxw := HW.out k hlt
      obtain ⟨x, hx⟩ : ∃ z, z = zl.getD k 0 := ⟨_, rfl⟩
      rw [← hx] at hd hxw
      obtain ⟨r, hr⟩ : ∃ z, z = Ln.nf 8 1 x := ⟨_, rfl⟩
      obtain ⟨z1, hz1'⟩ : ∃ z, z = mn x 15 := ⟨_, rfl⟩
      have CM := Lib.hid (show ∀ W, Calls Tryd.prog 31 #[.int .i64 x, .int .i64 15] W fun e w' => e = .returned (.int .i64 z1) ∧ W = w' from fun W => by rw [hz1']; exact min_any x 15 W)
      have CW := Lib.hid (show ∀ W, Calls Tryd.prog 34 #[.int .i64 4, .int .i64 z1] W fun e w' => e = .returned (.int .i64 r) ∧ W = w' from fun W => by
        have e1 := nf_1 (b := 8) (x := x) (by unfold Wd.IsBits; omega) hxw.2.1
        rw [hr, ← e1, hz1']; exact swrap_any 4 _ W (by unfold Wd.IsBits; omega))
      clear hz1'
      have HX := Lib.hid (And.intro hx hr)
      have j1 : (0 : Int) ≤ (k : Int) := by omega
      have j2 : (k : Int) < (N : Int) := by omega
      clear hx hr hxw hc
      go_wp2_with fail
      refine (CM.out _).mono ?_
      rintro e w5 ⟨rfl, rfl⟩
      go_wp2_with fail
      refine (CW.out _).mono ?_
      rintro e w5 ⟨rfl, rfl⟩
      go_wp2_with (at_builtin; refine wpList_push _ rfl _ _ rfl i0 Tryd.underlying25 hi hz0 hz1 hz2 _ _ _ _ _ rfl HO.out rfl (by omega) HB.out.size ?_; intro v' w6 hown1 hb1; have HO1 := Lib.hid hown1; have HB5 := Lib.hid hb1; clear hown1 hb1)
      go_roundw
      case rel => exact Pushes.step hlt HB.out _ (by obtain ⟨a, b⟩ := HX.out; rw [b, a]) HO1.out HB5.out
      case measure => simp [intOf]; omega
    · have hkn : k = N := by omega
      have HK := Lib.hid hkn
      have i11 : ¬ (k : Int) < (N : Int) := by omega
      clear hkn
      go_wp2
      go_ret2
      have hkk := HK.out
      subst hkk
      obtain ⟨A, c, rfl, hc, ho⟩ := own_form HO.out
      exact ⟨A, k, c, rfl, by rw [HTL.out, ← HNN.out]; exact ho.more HB4.out.size (Nat.le_refl _), by omega, HB4.out.trans (HB.out.mono HB4.out.size)⟩

set_option maxRecDepth 100000 in
set_option maxHeartbeats 1000000 in
theorem sNar_8_2 (A1 A2 : Option Addr) (n c1 c2 : Nat) (xs ys : List Int) (B1 B2 : Nat) (w : World) (hn : n ≤ 8) (hn0 : 0 < n) (h1 : Rd w B1 A1 n xs) (h2 : Rd w B2 A2 n ys) (hbo : Ln.both 8 xs ys = true) :
    Calls Tryd.prog 12 #[.int .i64 8, .slice A1 n c1, .slice A2 n c2, .int .i64 2] w (Ret1 (Ln.tab (fun i => Ln.nf 8 2 ((xs ++ ys).getD i 0)) (n + n)) true w) := by
  obtain ⟨i0, hi, hz0, hz1, hz2⟩ := info_parts A_info64
  have k1 := sBoth_any 8 A1 A2 n n c1 c2 xs ys B1 B2 w (by omega) (by omega) h1 h2
  rw [hbo] at k1
  have HW := Lib.hid (pair_words h1.len h2.len hbo)
  obtain ⟨g1, o1, rfl, _, _⟩ := h1.at_ hn0
  obtain ⟨g2, o2, rfl, _, _⟩ := h2.at_ hn0
  have C1 := Lib.hid k1
  have CI := Lib.hid (fun W => in_yes 2 0 2 W (by omega))
  have H1 := Lib.hid h1
  have H2 := Lib.hid h2
  obtain ⟨zl, hzl⟩ : ∃ zl, zl = xs ++ ys := ⟨_, rfl⟩
  rw [← hzl] at HW ⊢
  have HZL := Lib.hid hzl
  obtain ⟨TL, hTL⟩ : ∃ t, t = Ln.tab (fun i => Ln.nf 8 2 (zl.getD i 0)) (n + n) := ⟨_, rfl⟩
  rw [← hTL]
  have HTL := Lib.hid hTL; clear hTL
  have i8 : ¬ (8 : Int) < (n : Int) := by omega
  have i9 : (n : Int) ≤ 8 := by omega
  clear h1 h2 k1 hbo hzl
  go_enter Tryd.func12, Tryd.ntmps12
  go_wp2_with fail
  refine C1.out.mono ?_
  rintro e w1 ⟨rfl, hb⟩
  have HB1 := Lib.hid hb; clear hb
  have HS1 := Lib.hid HB1.out.size
  go_wp2_with fail
  refine (CI.out _).mono ?_
  rintro e w2 ⟨rfl, rfl⟩
  go_wp2_with fail
  refine (sOwnR_any _ n _ xs B1 _ (by omega) (H1.out.below HB1.out)).mono ?_
  rintro e w3 ⟨v3, rfl, hown, hb⟩
  have HO3 := Lib.hid hown
  have HB3 := Lib.hid (HB1.out.trans (hb.mono HB1.out.size))
  have HS3 := Lib.hid hb.size
  clear hown hb
  go_wp2_with (at_builtin; refine wpList_append_list _ rfl _ _ rfl i0 Tryd.underlying25 hi hz0 hz1 hz2 w1.heap.size _ n xs rfl HO3.out B2 _ _ _ ys rfl (H2.out.below HB3.out) (by intro h; cases h) (by omega) HS3.out ?_; intro v' w4 hown4 hb4; obtain ⟨g4, c4, rfl, hc4, ho4⟩ := own_some hown4 (by omega); have HO4 := Lib.hid ho4; have HB4 := Lib.hid (HB3.out.trans (hb4.mono HS1.out)); clear hown4 hb4 ho4)
  rw [← HZL.out] at HO4
  have HR := Lib.hid HO4.out.rd
  obtain ⟨N, hN⟩ : ∃ N, N = n + n := ⟨_, rfl⟩
  rw [← hN] at HR HO4 HW hc4
  rw [← hN]
  have HNN := Lib.hid hN
  have i10 : N ≤ 16 := by omega
  clear hN
  go_loopw [12, 13] (fun v i wr => Pushes (fun i => Ln.nf 8 2 (zl.getD i 0)) N w4 v i wr) (fun _ i _ => N - (intOf i).toNat)
  case atStart => exact Pushes.start _ _ _
  case round =>
    obtain ⟨k, hk, rfl, hown, hb⟩ := hrel
    have HO := Lib.hid hown
    have HB := Lib.hid hb; clear hown hb
    by_cases hlt : k < N
    · obtain ⟨g', o', e', _, hc⟩ := HR.out.at_ hlt
      injection e' with e'; injection e' with e1 e2; subst e1; subst e2
      rw [Nat.zero_add] at hc
      have hd := (HB.out.cell (p := ⟨g4, k, none⟩) (World.block_lt_of_cell? w4 _ hc)).trans hc
      have hxw := HW.out k hlt
      obtain ⟨x, hx⟩ : ∃ z, z = zl.getD k 0 := ⟨_, rfl⟩
      rw [← hx] at hd hxw
      obtain ⟨r, hr⟩ : ∃ z, z = Ln.nf 8 2 x := ⟨_, rfl⟩
      obtain ⟨s, hs⟩ : ∃ z, z = Wd.sg 8 x := ⟨_, rfl⟩
      obtain ⟨z1, hz1'⟩ : ∃ z, z = btw s (-8) 7 := ⟨_, rfl⟩
      have CS := Lib.hid (show ∀ W, Calls Tryd.prog 33 #[.int .i64 8, .int .i64 x] W fun e w' => e = .returned (.int .i64 s) ∧ W = w' from fun W => by rw [hs]; exact ssigned_any 8 x W hxw)
      have CM := Lib.hid (show ∀ W, Calls Tryd.prog 32 #[.int .i64 s, .int .i64 (-8), .int .i64 7] W fun e w' => e = .returned (.int .i64 z1) ∧ W = w' from fun W => by rw [hz1']; exact btw_any s (-8) 7 W)
      have CW := Lib.hid (show ∀ W, Calls Tryd.prog 34 #[.int .i64 4, .int .i64 z1] W fun e w' => e = .returned (.int .i64 r) ∧ W = w' from fun W => by
        have e1 := nf_2 (b := 8) (x := x) (by unfold Wd.IsBits; omega)
        rw [hr, ← e1, hz1', hs]; exact swrap_any 4 _ W (by unfold Wd.IsBits; omega))
      clear hz1' hs
      have HX := Lib.hid (And.intro hx hr)
      have j1 : (0 : Int) ≤ (k : Int) := by omega
      have j2 : (k : Int) < (N : Int) := by omega
      clear hx hr hxw hc
      go_wp2_with fail
      refine (CS.out _).mono ?_
      rintro e w5 ⟨rfl, rfl⟩
      go_wp2_with fail
      refine (CM.out _).mono ?_
      rintro e w5 ⟨rfl, rfl⟩
      go_wp2_with fail
      refine (CW.out _).mono ?_
      rintro e w5 ⟨rfl, rfl⟩
      go_wp2_with (at_builtin; refine wpList_push _ rfl _ _ rfl i0 Tryd.underlying25 hi hz0 hz1 hz2 _ _ _ _ _ rfl HO.out rfl (by omega) HB.out.size ?_; intro v' w6 hown1 hb1; have HO1 := Lib.hid hown1; have HB5 := Lib.hid hb1; clear hown1 hb1)
      go_roundw
      case rel => exact Pushes.step hlt HB.out _ (by obtain ⟨a, b⟩ := HX.out; rw [b, a]) HO1.out HB5.out
      case measure => simp [intOf]; omega
    · have hkn : k = N := by omega
      have HK := Lib.hid hkn
      have i11 : ¬ (k : Int) < (N : Int) := by omega
      clear hkn
      go_wp2
      go_ret2
      have hkk := HK.out
      subst hkk
      obtain ⟨A, c, rfl, hc, ho⟩ := own_form HO.out
      exact ⟨A, k, c, rfl, by rw [HTL.out, ← HNN.out]; exact ho.more HB4.out.size (Nat.le_refl _), by omega, HB4.out.trans (HB.out.mono HB4.out.size)⟩

set_option maxRecDepth 100000 in
set_option maxHeartbeats 1000000 in
theorem sNar_16_0 (A1 A2 : Option Addr) (n c1 c2 : Nat) (xs ys : List Int) (B1 B2 : Nat) (w : World) (hn : n ≤ 8) (hn0 : 0 < n) (h1 : Rd w B1 A1 n xs) (h2 : Rd w B2 A2 n ys) (hbo : Ln.both 16 xs ys = true) :
    Calls Tryd.prog 12 #[.int .i64 16, .slice A1 n c1, .slice A2 n c2, .int .i64 0] w (Ret1 (Ln.tab (fun i => Ln.nf 16 0 ((xs ++ ys).getD i 0)) (n + n)) true w) := by
  obtain ⟨i0, hi, hz0, hz1, hz2⟩ := info_parts A_info64
  have k1 := sBoth_any 16 A1 A2 n n c1 c2 xs ys B1 B2 w (by omega) (by omega) h1 h2
  rw [hbo] at k1
  have HW := Lib.hid (pair_words h1.len h2.len hbo)
  obtain ⟨g1, o1, rfl, _, _⟩ := h1.at_ hn0
  obtain ⟨g2, o2, rfl, _, _⟩ := h2.at_ hn0
  have C1 := Lib.hid k1
  have CI := Lib.hid (fun W => in_yes 0 0 2 W (by omega))
  have H1 := Lib.hid h1
  have H2 := Lib.hid h2
  obtain ⟨zl, hzl⟩ : ∃ zl, zl = xs ++ ys := ⟨_, rfl⟩
  rw [← hzl] at HW ⊢
  have HZL := Lib.hid hzl
  obtain ⟨TL, hTL⟩ : ∃ t, t = Ln.tab (fun i => Ln.nf 16 0 (zl.getD i 0)) (n + n) := ⟨_, rfl⟩
  rw [← hTL]
  have HTL := Lib.hid hTL; clear hTL
  have i8 : ¬ (8 : Int) < (n : Int) := by omega
  have i9 : (n : Int) ≤ 8 := by omega
  clear h1 h2 k1 hbo hzl
  go_enter Tryd.func12, Tryd.ntmps12
  go_wp2_with fail
  refine C1.out.mono ?_
  rintro e w1 ⟨rfl, hb⟩
  have HB1 := Lib.hid hb; clear hb
  have HS1 := Lib.hid HB1.out.size
  go_wp2_with fail
  refine (CI.out _).mono ?_
  rintro e w2 ⟨rfl, rfl⟩
  go_wp2_with fail
  refine (sOwnR_any _ n _ xs B1 _ (by omega) (H1.out.below HB1.out)).mono ?_
  rintro e w3 ⟨v3, rfl, hown, hb⟩
  have HO3 := Lib.hid hown
  have HB3 := Lib.hid (HB1.out.trans (hb.mono HB1.out.size))
  have HS3 := Lib.hid hb.size
  clear hown hb
  go_wp2_with (at_builtin; refine wpList_append_list _ rfl _ _ rfl i0 Tryd.underlying25 hi hz0 hz1 hz2 w1.heap.size _ n xs rfl HO3.out B2 _ _ _ ys rfl (H2.out.below HB3.out) (by intro h; cases h) (by omega) HS3.out ?_; intro v' w4 hown4 hb4; obtain ⟨g4, c4, rfl, hc4, ho4⟩ := own_some hown4 (by omega); have HO4 := Lib.hid ho4; have HB4 := Lib.hid (HB3.out.trans (hb4.mono HS1.out)); clear hown4 hb4 ho4)
  rw [← HZL.out] at HO4
  have HR := Lib.hid HO4.out.rd
  obtain ⟨N, hN⟩ : ∃ N, N = n + n := ⟨_, rfl⟩
  rw [← hN] at HR HO4 HW hc4
  rw [← hN]
  have HNN := Lib.hid hN
  have i10 : N ≤ 16 := by omega
  clear hN
  go_loopw [12, 13] (fun v i wr => Pushes (fun i => Ln.nf 16 0 (zl.getD i 0)) N w4 v i wr) (fun _ i _ => N - (intOf i).toNat)
  case atStart => exact Pushes.start _ _ _
  case round =>
    obtain ⟨k, hk, rfl, hown, hb⟩ := hrel
    have HO := Lib.hid hown
    have HB := Lib.hid hb; clear hown hb
    by_cases hlt : k < N
    · obtain ⟨g', o', e', _, hc⟩ := HR.out.at_ hlt
      injection e' with e'; injection e' with e1 e2; subst e1; subst e2
      rw [Nat.zero_add] at hc
      have hd := (HB.out.cell (p := ⟨g4, k, none⟩) (World.block_lt_of_cell? w4 _ hc)).trans hc
      have hxw := HW.out k hlt
      obtain ⟨x, hx⟩ : ∃ z, z = zl.getD k 0 := ⟨_, rfl⟩
      rw [← hx] at hd hxw
      obtain ⟨r, hr⟩ : ∃ z, z = Ln.nf 16 0 x := ⟨_, rfl⟩
      have CW := Lib.hid (show ∀ W, Calls Tryd.prog 34 #[.int .i64 8, .int .i64 x] W fun e w' => e = .returned (.int .i64 r) ∧ W = w' from fun W => by rw [hr]; exact swrap_any 8 x W (by unfold Wd.IsBits; omega))
      have HX := Lib.hid (And.intro hx hr)
      have j1 : (0 : Int) ≤ (k : Int) := by omega
      have j2 : (k : Int) < (N : Int) := by omega
      clear hx hr hxw hc
      go_wp2_with fail
      refine (CW.out _).mono ?_
      rintro e w5 ⟨rfl, rfl⟩
      go_wp2_with (at_builtin; refine wpList_push _ rfl _ _ rfl i0 Tryd.underlying25 hi hz0 hz1 hz2 _ _ _ _ _ rfl HO.out rfl (by omega) HB.out.size ?_; intro v' w6 hown1 hb1; have HO1 := Lib.hid hown1; have HB5 := Lib.hid hb1; clear hown1 hb1)
      go_roundw
      case rel => exact Pushes.step hlt HB.out _ (by obtain ⟨a, b⟩ := HX.out; rw [b, a]) HO1.out HB5.out
      case measure => simp [intOf]; omega
    · have hkn : k = N := by omega
      have HK := Lib.hid hkn
      have i11 : ¬ (k : Int) < (N : Int) := by omega
      clear hkn
      go_wp2
      go_ret2
      have hkk := HK.out
      subst hkk
      obtain ⟨A, c, rfl, hc, ho⟩ := own_form HO.out
      exact ⟨A, k, c, rfl, by rw [HTL.out, ← HNN.out]; exact ho.more HB4.out.size (Nat.le_refl _), by omega, HB4.out.trans (HB.out.mono HB4.out.size)⟩

set_option maxRecDepth 100000 in
set_option maxHeartbeats 1000000 in
theorem sNar_16_1 (A1 A2 : Option Addr) (n c1 c2 : Nat) (xs ys : List Int) (B1 B2 : Nat) (w : World) (hn : n ≤ 8) (hn0 : 0 < n) (h1 : Rd w B1 A1 n xs) (h2 : Rd w B2 A2 n ys) (hbo : Ln.both 16 xs ys = true) :
    Calls Tryd.prog 12 #[.int .i64 16, .slice A1 n c1, .slice A2 n c2, .int .i64 1] w (Ret1 (Ln.tab (fun i => Ln.nf 16 1 ((xs ++ ys).getD i 0)) (n + n)) true w) := by
  obtain ⟨i0, hi, hz0, hz1, hz2⟩ := info_parts A_info64
  have k1 := sBoth_any 16 A1 A2 n n c1 c2 xs ys B1 B2 w (by omega) (by omega) h1 h2
  rw [hbo] at k1
  have HW := Lib.hid (pair_words h1.len h2.len hbo)
  obtain ⟨g1, o1, rfl, _, _⟩ := h1.at_ hn0
  obtain ⟨g2, o2, rfl, _, _⟩ := h2.at_ hn0
  have C1 := Lib.hid k1
  have CI := Lib.hid (fun W => in_yes 1 0 2 W (by omega))
  have H1 := Lib.hid h1
  have H2 := Lib.hid h2
  obtain ⟨zl, hzl⟩ : ∃ zl, zl = xs ++ ys := ⟨_, rfl⟩
  rw [← hzl] at HW ⊢
  have HZL := Lib.hid hzl
  obtain ⟨TL, hTL⟩ : ∃ t, t = Ln.tab (fun i => Ln.nf 16 1 (zl.getD i 0)) (n + n) := ⟨_, rfl⟩
  rw [← hTL]
  have HTL := Lib.hid hTL; clear hTL
  have i8 : ¬ (8 : Int) < (n : Int) := by omega
  have i9 : (n : Int) ≤ 8 := by omega
  clear h1 h2 k1 hbo hzl
  go_enter Tryd.func12, Tryd.ntmps12
  go_wp2_with fail
  refine C1.out.mono ?_
  rintro e w1 ⟨rfl, hb⟩
  have HB1 := Lib.hid hb; clear hb
  have HS1 := Lib.hid HB1.out.size
  go_wp2_with fail
  refine (CI.out _).mono ?_
  rintro e w2 ⟨rfl, rfl⟩
  go_wp2_with fail
  refine (sOwnR_any _ n _ xs B1 _ (by omega) (H1.out.below HB1.out)).mono ?_
  rintro e w3 ⟨v3, rfl, hown, hb⟩
  have HO3 := Lib.hid hown
  have HB3 := Lib.hid (HB1.out.trans (hb.mono HB1.out.size))
  have HS3 := Lib.hid hb.size
  clear hown hb
  go_wp2_with (at_builtin; refine wpList_append_list _ rfl _ _ rfl i0 Tryd.underlying25 hi hz0 hz1 hz2 w1.heap.size _ n xs rfl HO3.out B2 _ _ _ ys rfl (H2.out.below HB3.out) (by intro h; cases h) (by omega) HS3.out ?_; intro v' w4 hown4 hb4; obtain ⟨g4, c4, rfl, hc4, ho4⟩ := own_some hown4 (by omega); have HO4 := Lib.hid ho4; have HB4 := Lib.hid (HB3.out.trans (hb4.mono HS1.out)); clear hown4 hb4 ho4)
  rw [← HZL.out] at HO4
  have HR := Lib.hid HO4.out.rd
  obtain ⟨N, hN⟩ : ∃ N, N = n + n := ⟨_, rfl⟩
  rw [← hN] at HR HO4 HW hc4
  rw [← hN]
  have HNN := Lib.hid hN
  have i10 : N ≤ 16 := by omega
  clear hN
  go_loopw [12, 13] (fun v i wr => Pushes (fun i => Ln.nf 16 1 (zl.getD i 0)) N w4 v i wr) (fun _ i _ => N - (intOf i).toNat)
  case atStart => exact Pushes.start _ _ _
  case round =>
    obtain ⟨k, hk, rfl, hown, hb⟩ := hrel
    have HO := Lib.hid hown
    have HB := Lib.hid hb; clear hown hb
    by_cases hlt : k < N
    · obtain ⟨g', o', e', _, hc⟩ := HR.out.at_ hlt
      injection e' with e'; injection e' with e1 e2; subst e1; subst e2
      rw [Nat.zero_add] at hc
      have hd := (HB.out.cell (p := ⟨g4, k, none⟩) (World.block_lt_of_cell? w4 _ hc)).trans hc
      have hxw := HW.out k hlt
      obtain ⟨x, hx⟩ : ∃ z, z = zl.getD k 0 := ⟨_, rfl⟩
      rw [← hx] at hd hxw
      obtain ⟨r, hr⟩ : ∃ z, z = Ln.nf 16 1 x := ⟨_, rfl⟩
      obtain ⟨z1, hz1'⟩ : ∃ z, z = mn x 255 := ⟨_, rfl⟩
      have CM := Lib.hid (show ∀ W, Calls Tryd.prog 31 #[.int .i64 x, .int .i64 255] W fun e w' => e = .returned (.int .i64 z1) ∧ W = w' from fun W => by rw [hz1']; exact min_any x 255 W)
      have CW := Lib.hid (show ∀ W, Calls Tryd.prog 34 #[.int .i64 8, .int .i64 z1] W fun e w' => e = .returned (.int .i64 r) ∧ W = w' from fun W => by
        have e1 := nf_1 (b := 16) (x := x) (by unfold Wd.IsBits; omega) hxw.2.1
        rw [hr, ← e1, hz1']; exact swrap_any 8 _ W (by unfold Wd.IsBits; omega))
      clear hz1'
      have HX := Lib.hid (And.intro hx hr)
      have j1 : (0 : Int) ≤ (k : Int) := by omega
      have j2 : (k : Int) < (N : Int) := by omega
      clear hx hr hxw hc
      go_wp2_with fail
      refine (CM.out _).mono ?_
      rintro e w5 ⟨rfl, rfl⟩
      go_wp2_with fail
      refine (CW.out _).mono ?_
      rintro e w5 ⟨rfl, rfl⟩
      go_wp2_with (at_builtin; refine wpList_push _ rfl _ _ rfl i0 Tryd.underlying25 hi hz0 hz1 hz2 _ _ _ _ _ rfl HO.out rfl (by omega) HB.out.size ?_; intro v' w6 hown1 hb1; have HO1 := Lib.hid hown1; have HB5 := Lib.hid hb1; clear hown1 hb1)
      go_roundw
      case rel => exact Pushes.step hlt HB.out _ (by obtain ⟨a, b⟩ := HX.out; rw [b, a]) HO1.out HB5.out
      case measure => simp [intOf]; omega
    · have hkn : k = N := by omega
      have HK := Lib.hid hkn
      have i11 : ¬ (k : Int) < (N : Int) := by omega
      clear hkn
      go_wp2
      go_ret2
      have hkk := HK.out
      subst hkk
      obtain ⟨A, c, rfl, hc, ho⟩ := own_form HO.out
      exact ⟨A, k, c, rfl, by rw [HTL.out, ← HNN.out]; exact ho.more HB4.out.size (Nat.le_refl _), by omega, HB4.out.trans (HB.out.mono HB4.out.size)⟩

set_option maxRecDepth 100000 in
set_option maxHeartbeats 1000000 in
theorem sNar_16_2 (A1 A2 : Option Addr) (n c1 c2 : Nat) (xs ys : List Int) (B1 B2 : Nat) (w : World) (hn : n ≤ 8) (hn0 : 0 < n) (h1 : Rd w B1 A1 n xs) (h2 : Rd w B2 A2 n ys) (hbo : Ln.both 16 xs ys = true) :
    Calls Tryd.prog 12 #[.int .i64 16, .slice A1 n c1, .slice A2 n c2, .int .i64 2] w (Ret1 (Ln.tab (fun i => Ln.nf 16 2 ((xs ++ ys).getD i 0)) (n + n)) true w) := by
  obtain ⟨i0, hi, hz0, hz1, hz2⟩ := info_parts A_info64
  have k1 := sBoth_any 16 A1 A2 n n c1 c2 xs ys B1 B2 w (by omega) (by omega) h1 h2
  rw [hbo] at k1
  have HW := Lib.hid (pair_words h1.len h2.len hbo)
  obtain ⟨g1, o1, rfl, _, _⟩ := h1.at_ hn0
  obtain ⟨g2, o2, rfl, _, _⟩ := h2.at_ hn0
  have C1 := Lib.hid k1
  have CI := Lib.hid (fun W => in_yes 2 0 2 W (by omega))
  have H1 := Lib.hid h1
  have H2 := Lib.hid h2
  obtain ⟨zl, hzl⟩ : ∃ zl, zl = xs ++ ys := ⟨_, rfl⟩
  rw [← hzl] at HW ⊢
  have HZL := Lib.hid hzl
  obtain ⟨TL, hTL⟩ : ∃ t, t = Ln.tab (fun i => Ln.nf 16 2 (zl.getD i 0)) (n + n) := ⟨_, rfl⟩
  rw [← hTL]
  have HTL := Lib.hid hTL; clear hTL
  have i8 : ¬ (8 : Int) < (n : Int) := by omega
  have i9 : (n : Int) ≤ 8 := by omega
  clear h1 h2 k1 hbo hzl
  go_enter Tryd.func12, Tryd.ntmps12
  go_wp2_with fail
  refine C1.out.mono ?_
  rintro e w1 ⟨rfl, hb⟩
  have HB1 := Lib.hid hb; clear hb
  have HS1 := Lib.hid HB1.out.size
  go_wp2_with fail
  refine (CI.out _).mono ?_
  rintro e w2 ⟨rfl, rfl⟩
  go_wp2_with fail
  refine (sOwnR_any _ n _ xs B1 _ (by omega) (H1.out.below HB1.out)).mono ?_
  rintro e w3 ⟨v3, rfl, hown, hb⟩
  have HO3 := Lib.hid hown
  have HB3 := Lib.hid (HB1.out.trans (hb.mono HB1.out.size))
  have HS3 := Lib.hid hb.size
  clear hown hb
  go_wp2_with (at_builtin; refine wpList_append_list _ rfl _ _ rfl i0 Tryd.underlying25 hi hz0 hz1 hz2 w1.heap.size _ n xs rfl HO3.out B2 _ _ _ ys rfl (H2.out.below HB3.out) (by intro h; cases h) (by omega) HS3.out ?_; intro v' w4 hown4 hb4; obtain ⟨g4, c4, rfl, hc4, ho4⟩ := own_some hown4 (by omega); have HO4 := Lib.hid ho4; have HB4 := Lib.hid (HB3.out.trans (hb4.mono HS1.out)); clear hown4 hb4 ho4)
  rw [← HZL.out] at HO4
  have HR := Lib.hid HO4.out.rd
  obtain ⟨N, hN⟩ : ∃ N, N = n + n := ⟨_, rfl⟩
  rw [← hN] at HR HO4 HW hc4
  rw [← hN]
  have HNN := Lib.hid hN
  have i10 : N ≤ 16 := by omega
  clear hN
  go_loopw [12, 13] (fun v i wr => Pushes (fun i => Ln.nf 16 2 (zl.getD i 0)) N w4 v i wr) (fun _ i _ => N - (intOf i).toNat)
  case atStart => exact Pushes.start _ _ _
  case round =>
    obtain ⟨k, hk, rfl, hown, hb⟩ := hrel
    have HO := Lib.hid hown
    have HB := Lib.hid hb; clear hown hb
    by_cases hlt : k < N
    · obtain ⟨g', o', e', _, hc⟩ := HR.out.at_ hlt
      injection e' with e'; injection e' with e1 e2; subst e1; subst e2
      rw [Nat.zero_add] at hc
      have hd := (HB.out.cell (p := ⟨g4, k, none⟩) (World.block_lt_of_cell? w4 _ hc)).trans hc
      have hxw := HW.out k hlt
      obtain ⟨x, hx⟩ : ∃ z, z = zl.getD k 0 := ⟨_, rfl⟩
      rw [← hx] at hd hxw
      obtain ⟨r, hr⟩ : ∃ z, z = Ln.nf 16 2 x := ⟨_, rfl⟩
      obtain ⟨s, hs⟩ : ∃ z, z = Wd.sg 16 x := ⟨_, rfl⟩
      obtain ⟨z1, hz1'⟩ : ∃ z, z = btw s (-128) 127 := ⟨_, rfl⟩
      have CS := Lib.hid (show ∀ W, Calls Tryd.prog 33 #[.int .i64 16, .int .i64 x] W fun e w' => e = .returned (.int .i64 s) ∧ W = w' from fun W => by rw [hs]; exact ssigned_any 16 x W hxw)
      have CM := Lib.hid (show ∀ W, Calls Tryd.prog 32 #[.int .i64 s, .int .i64 (-128), .int .i64 127] W fun e w' => e = .returned (.int .i64 z1) ∧ W = w' from fun W => by rw [hz1']; exact btw_any s (-128) 127 W)
      have CW := Lib.hid (show ∀ W, Calls Tryd.prog 34 #[.int .i64 8, .int .i64 z1] W fun e w' => e = .returned (.int .i64 r) ∧ W = w' from fun W => by
        have e1 := nf_2 (b := 16) (x := x) (by unfold Wd.IsBits; omega)
        rw [hr, ← e1, hz1', hs]; exact swrap_any 8 _ W (by unfold Wd.IsBits; omega))
      clear hz1' hs
      have HX := Lib.hid (And.intro hx hr)
      have j1 : (0 : Int) ≤ (k : Int) := by omega
      have j2 : (k : Int) < (N : Int) := by omega
      clear hx hr hxw hc
      go_wp2_with fail
      refine (CS.out _).mono ?_
      rintro e w5 ⟨rfl, rfl⟩
      go_wp2_with fail
      refine (CM.out _).mono ?_
      rintro e w5 ⟨rfl, rfl⟩
      go_wp2_with fail
      refine (CW.out _).mono ?_
      rintro e w5 ⟨rfl, rfl⟩
      go_wp2_with (at_builtin; refine wpList_push _ rfl _ _ rfl i0 Tryd.underlying25 hi hz0 hz1 hz2 _ _ _ _ _ rfl HO.out rfl (by omega) HB.out.size ?_; intro v' w6 hown1 hb1; have HO1 := Lib.hid hown1; have HB5 := Lib.hid hb1; clear hown1 hb1)
      go_roundw
      case rel => exact Pushes.step hlt HB.out _ (by obtain ⟨a, b⟩ := HX.out; rw [b, a]) HO1.out HB5.out
      case measure => simp [intOf]; omega
    · have hkn : k = N := by omega
      have HK := Lib.hid hkn
      have i11 : ¬ (k : Int) < (N : Int) := by omega
      clear hkn
      go_wp2
      go_ret2
      have hkk := HK.out
      subst hkk
      obtain ⟨A, c, rfl, hc, ho⟩ := own_form HO.out
      exact ⟨A, k, c, rfl, by rw [HTL.out, ← HNN.out]; exact ho.more HB4.out.size (Nat.le_refl _), by omega, HB4.out.trans (HB.out.mono HB4.out.size)⟩

end Go.Proofs.YtadolbamjojmpaaDoor.Wds
