/-
  The walk of the law of ValidState: the code answers as the model, for all arguments; nothing that was there has changed.
-/
import Derived.Test.YtkdgnadidmagdaaSte3
namespace Go.Proofs.Ytkdgnadidmagdaa.Wds
open Go.RowKit
set_option linter.unusedVariables false

set_option maxHeartbeats 4000000 in
set_option maxRecDepth 100000 in
theorem law_validState (l b : Int) (A : Option Addr) (n c : Nat) (V : List (List Int)) (A' : Option Addr) (n' c' : Nat) (M : List (List Int)) (A'' : Option Addr) (n'' c'' : Nat) (YY : List Int) (w : World)
    (hV : IsRows w A n c V) (hM : IsRows w A' n' c' M) (hY : IsRow .i64 w A'' n'' c'' YY) :
    Calls Try.prog 4 #[.agg #[.int .i64 l, .int .i64 b], .agg #[.slice A n c, .slice A' n' c', .slice A'' n'' c'']] w fun e w' => e = .returned (.bool true) ∧ Below w.heap.size w w' := by
  obtain ⟨Y, rY, nY⟩ : ∃ zs, Rd w w.heap.size A'' n'' zs ∧ n'' ≤ 9223372036854775807 := ⟨_, Rd.of_row hY, by
    rcases hY with ⟨_, h, _⟩ | ⟨x, _, h1, h2, _⟩
    · omega
    · unfold maxLen at h2; omega⟩
  have rV := hV.1
  have rM := hM.1
  have lV := rV.len
  have lM := rM.len
  have lY := rY.len
  have HB0 : Hid (Below w.heap.size w ((w.alloc (.cells #[.int .i64 l, .int .i64 b] 23)).alloc (.cells #[.slice A n c, .slice A' n' c', .slice A'' n'' c''] 31))) := ((Below.refl _ _).alloc (Nat.le_refl _) _).alloc (by simp) _
  have HM0 : Hid (McAt ((w.alloc (.cells #[.int .i64 l, .int .i64 b] 23)).alloc (.cells #[.slice A n c, .slice A' n' c', .slice A'' n'' c''] 31)) w.heap.size l b) := (new2' w l b _).below ((Below.refl _ _).alloc (Nat.le_refl _) _)
  have HS0 : Hid (At3 ((w.alloc (.cells #[.int .i64 l, .int .i64 b] 23)).alloc (.cells #[.slice A n c, .slice A' n' c', .slice A'' n'' c''] 31)) (w.heap.size + 1) (.slice A n c) (.slice A' n' c') (.slice A'' n'' c'')) := new3' _ _ (by simp) _ _ _ _
  have eb : ∀ {k : Nat}, (k + 1 = k + 1) := rfl
  have CZ0 := szState_any A n c V A' n' c' M A'' n'' c'' Y ((w.alloc (.cells #[.int .i64 l, .int .i64 b] 23)).alloc (.cells #[.slice A n c, .slice A' n' c', .slice A'' n'' c''] 31)) ⟨RdR.more (rV.below HB0.out) HB0.out.size, hV.2⟩ ⟨RdR.more (rM.below HB0.out) HB0.out.size, hM.2⟩ nY lY
  by_cases ht : totS V M Y ≤ 1048576
  rotate_left
  · rw [if_neg ht] at CZ0
    have CZ := Lib.hid CZ0
    clear CZ0 ht rV rM rY lV lM lY hV hM hY nY HM0 HS0
    go_enter Try.func4, Try.ntmps4
    go_wp2_with fail
    refine CZ.out.mono ?_
    rintro e w1 ⟨rfl, hb⟩
    have HB1 := Lib.hid (HB0.out.trans (hb.mono HB0.out.size))
    clear hb
    go_wp2
    go_ret
    exact ⟨rfl, HB1.out⟩
  have tV : Ln.totL V ≤ 1048576 := by unfold totS at ht; omega
  have tM : Ln.totL M ≤ 1048576 := by unfold totS at ht; omega
  have tY : Y.length ≤ 1048576 := by unfold totS at ht; omega
  rw [if_pos ht] at CZ0
  obtain ⟨lf, hlf⟩ : ∃ v : Int, v = 1048576 - (totS V M Y : Int) := ⟨_, rfl⟩
  rw [← hlf] at CZ0
  have lf0 : ¬ (lf < 0) := by omega
  have CZ := Lib.hid CZ0
  subst lV; subst lM; subst lY
  have CT := Lib.hid (fun (W : World) (hb : Below w.heap.size w W) => toState_any A V.length c V A' M.length c' M A'' Y.length c'' Y w.heap.size w.heap.size w.heap.size W tV tM tY (rV.below hb) (rM.below hb) (rY.below hb))
  have CE := Lib.hid (fun (W : World) (A1 : Option Addr) (c1 : Nat) (A1' : Option Addr) (c1' : Nat) (A1'' : Option Addr) (c1'' : Nat) (A2 : Option Addr) (c2 : Nat) (A2' : Option Addr) (c2' : Nat) (A2'' : Option Addr) (c2'' : Nat) (h1 : ∃ B1, RdR W B1 A1 V.length V) (h2 : ∃ B2, RdR W B2 A1' M.length M) (h3 : ∃ B3, Rd W B3 A1'' Y.length Y) (h4 : ∃ B4, RdR W B4 A2 V.length V) (h5 : ∃ B5, RdR W B5 A2' M.length M) (h6 : ∃ B6, Rd W B6 A2'' Y.length Y) => eqState_same A1 V.length c1 V A1' M.length c1' M A1'' Y.length c1'' Y A2 c2 A2' c2' A2'' c2'' _ _ _ _ _ _ W tV tM tY h1.choose_spec h2.choose_spec h3.choose_spec h4.choose_spec h5.choose_spec h6.choose_spec)
  have hS := fun (W : World) (A1 : Option Addr) (c1 : Nat) (A1' : Option Addr) (c1' : Nat) (A1'' : Option Addr) (c1'' : Nat) (h1 : ∃ B1, RdR W B1 A1 V.length V) (h2 : ∃ B2, RdR W B2 A1' M.length M) (h3 : ∃ B3, Rd W B3 A1'' Y.length Y) => sValidS_any l b A1 V.length c1 V A1' M.length c1' M A1'' Y.length c1'' Y _ _ _ W tV tM tY h1.choose_spec h2.choose_spec h3.choose_spec
  have hI := fun (W : World) (A1 : Option Addr) (c1 : Nat) (A1' : Option Addr) (c1' : Nat) (A1'' : Option Addr) (c1'' : Nat) (h1 : ∃ B1, RdR W B1 A1 V.length V) (h2 : ∃ B2, RdR W B2 A1' M.length M) (h3 : ∃ B3, Rd W B3 A1'' Y.length Y) => iValidS_any l b A1 V.length c1 V A1' M.length c1' M A1'' Y.length c1'' Y _ _ _ W tV tM tY h1.choose_spec h2.choose_spec h3.choose_spec
  generalize Mc.vS l b V M Y = ok at hS hI
  have CS := Lib.hid hS
  have CI := Lib.hid hI
  clear hS hI CZ0 hlf ht rV rM rY hV hM hY nY tV tM tY eb
  go_enter Try.func4, Try.ntmps4
  go_wp2_with fail
  refine CZ.out.mono ?_
  rintro e w1 ⟨rfl, hb⟩
  have HB1 := Lib.hid (HB0.out.trans (hb.mono HB0.out.size))
  have HMS := Lib.hid (And.intro (HM0.out.below hb) (HS0.out.below hb))
  have K := Lib.hid (fun (W : World) (h : Below w1.heap.size w1 W) => (And.intro (HMS.out.1.below h).1 (And.intro (HMS.out.1.below h).2 (HMS.out.2.below h)) : W.cell? ⟨w.heap.size, 0, none⟩ = some (.int .i64 l) ∧ W.cell? ⟨w.heap.size, 1, none⟩ = some (.int .i64 b) ∧ W.cell? ⟨w.heap.size + 1, 0, none⟩ = some (.slice A V.length c) ∧ W.cell? ⟨w.heap.size + 1, 1, none⟩ = some (.slice A' M.length c') ∧ W.cell? ⟨w.heap.size + 1, 2, none⟩ = some (.slice A'' Y.length c'')))
  clear hb HM0 HS0
  go_wp2_with fail
  go_region_held3 (fun W => W.cell? ⟨w.heap.size, 0, none⟩ = some (.int .i64 l) ∧ W.cell? ⟨w.heap.size, 1, none⟩ = some (.int .i64 b) ∧ W.cell? ⟨w.heap.size + 1, 0, none⟩ = some (.slice A V.length c) ∧ W.cell? ⟨w.heap.size + 1, 1, none⟩ = some (.slice A' M.length c') ∧ W.cell? ⟨w.heap.size + 1, 2, none⟩ = some (.slice A'' Y.length c''))
    (first | exact K.out _ HC7.out | exact K.out _ HC5.out | exact K.out _ HC6.out | exact K.out _ (Below.refl _ _) | exact K.out _ (Below.refl _ _).drew | go_keep)
    (first
      | (go_at_call 11; (with_reducible refine (toM_any l b _).mono ?_); rintro e w5 ⟨rfl, hb5⟩; have HC5 : Hid (Below w1.heap.size w1 w5) := (by first | exact HC6.out.trans (hb5.mono HC6.out.size) | exact ((Below.refl _ w1).drew).trans (hb5.mono (Nat.le_refl _)) | exact hb5); (try (have HR5 := Lib.hid (And.intro (HR6.out.1.below hb5) (And.intro (HR6.out.2.1.below hb5) (HR6.out.2.2.below hb5))))))
      | (go_at_call 15; (with_reducible refine (CT.out _ ?_).mono ?_); (first | exact HB1.out.trans (HC5.out.mono HB1.out.size) | exact HB1.out.drew | exact HB1.out); rintro e w6 ⟨A6, c6, B6, d6, D6, f6, rfl, rv6, rm6, ry6, hb6⟩; have HC6 : Hid (Below w1.heap.size w1 w6) := (by first | exact HC5.out.trans (hb6.mono HC5.out.size) | exact ((Below.refl _ w1).drew).trans (hb6.mono (Nat.le_refl _)) | exact hb6); have HR6 := Lib.hid (And.intro rv6 (And.intro rm6 ry6)))
      | (go_at_call 14; (with_reducible refine (CS.out _ _ _ _ _ _ _ ?_ ?_ ?_).mono ?_); (first | exact ⟨_, HR5.out.1⟩ | exact ⟨_, HR6.out.1⟩); (first | exact ⟨_, HR5.out.2.1⟩ | exact ⟨_, HR6.out.2.1⟩); (first | exact ⟨_, HR5.out.2.2⟩ | exact ⟨_, HR6.out.2.2⟩); rintro e w7 ⟨rfl, hb7⟩; have HC7 : Hid (Below w1.heap.size w1 w7) := (by first | exact HC5.out.trans (hb7.mono HC5.out.size) | exact HC6.out.trans (hb7.mono HC6.out.size))))
  all_goals
    have HB7 := Lib.hid (HB1.out.trans (HC7.out.mono HB1.out.size))
    obtain ⟨m0, m1, s0, s1, s2⟩ := K.out _ HC7.out
    go_wp2_with fail
    refine (CT.out _ HB7.out).mono ?_
    rintro e w8 ⟨A8, c8, B8, d8, D8, f8, rfl, rv8, rm8, ry8, hb8⟩
    have HC8 := Lib.hid (HC7.out.trans (hb8.mono HC7.out.size))
    have HB8 := Lib.hid (HB1.out.trans (HC8.out.mono HB1.out.size))
    have HX8 := Lib.hid (new3 w8 (.slice A8 V.length c8) (.slice B8 M.length d8) (.slice D8 Y.length f8) 34)
    have ha8 : Below w8.heap.size w8 (w8.alloc (.cells #[.slice A8 V.length c8, .slice B8 M.length d8, .slice D8 Y.length f8] 34)) := (Below.refl _ _).alloc (Nat.le_refl _) _
    have HR8 := Lib.hid (And.intro (rv8.below ha8) (And.intro (rm8.below ha8) (ry8.below ha8)))
    have HC9 := Lib.hid (HC8.out.trans (ha8.mono HC8.out.size))
    have HB9 := Lib.hid (HB1.out.trans (HC9.out.mono HB1.out.size))
    clear m0 m1 s0 s1 s2 hb8 rv8 rm8 ry8 ha8
    obtain ⟨w9, hw9⟩ : ∃ x, x = w8.alloc (.cells #[.slice A8 V.length c8, .slice B8 M.length d8, .slice D8 Y.length f8] 34) := ⟨_, rfl⟩
    rw [← hw9] at HX8 HR8 HC9 HB9
    have HW9 := Lib.hid hw9
    clear hw9
    have K9 := Lib.hid (fun (W : World) (h : Below w9.heap.size w9 W) => (by
      obtain ⟨m0, m1, s0, s1, s2⟩ := K.out _ (HC9.out.trans (h.mono HC9.out.size))
      obtain ⟨x0, x1, x2⟩ := HX8.out.below h
      exact ⟨m0, m1, s0, s1, s2, x0, x1, x2⟩ : W.cell? ⟨w.heap.size, 0, none⟩ = some (.int .i64 l) ∧ W.cell? ⟨w.heap.size, 1, none⟩ = some (.int .i64 b) ∧ W.cell? ⟨w.heap.size + 1, 0, none⟩ = some (.slice A V.length c) ∧ W.cell? ⟨w.heap.size + 1, 1, none⟩ = some (.slice A' M.length c') ∧ W.cell? ⟨w.heap.size + 1, 2, none⟩ = some (.slice A'' Y.length c'') ∧ W.cell? ⟨w8.heap.size, 0, none⟩ = some (.slice A8 V.length c8) ∧ W.cell? ⟨w8.heap.size, 1, none⟩ = some (.slice B8 M.length d8) ∧ W.cell? ⟨w8.heap.size, 2, none⟩ = some (.slice D8 Y.length f8)))
    go_wp2_with fail
    rw [← HW9.out]
    go_region_held3 (fun W => W.cell? ⟨w.heap.size, 0, none⟩ = some (.int .i64 l) ∧ W.cell? ⟨w.heap.size, 1, none⟩ = some (.int .i64 b) ∧ W.cell? ⟨w.heap.size + 1, 0, none⟩ = some (.slice A V.length c) ∧ W.cell? ⟨w.heap.size + 1, 1, none⟩ = some (.slice A' M.length c') ∧ W.cell? ⟨w.heap.size + 1, 2, none⟩ = some (.slice A'' Y.length c'') ∧ W.cell? ⟨w8.heap.size, 0, none⟩ = some (.slice A8 V.length c8) ∧ W.cell? ⟨w8.heap.size, 1, none⟩ = some (.slice B8 M.length d8) ∧ W.cell? ⟨w8.heap.size, 2, none⟩ = some (.slice D8 Y.length f8))
      (first | exact K9.out _ HC11.out | exact K9.out _ HC10.out | exact K9.out _ (Below.refl _ _) | exact K9.out _ (Below.refl _ _).drew | go_keep)
      (first
        | (go_at_call 11; (with_reducible refine (toM_any l b _).mono ?_); rintro e w10 ⟨rfl, hb10⟩; have HC10 : Hid (Below w9.heap.size w9 w10) := (by first | exact ((Below.refl _ w9).drew).trans (hb10.mono (Nat.le_refl _)) | exact hb10); have HR10 := Lib.hid (And.intro (HR8.out.1.below HC10.out) (And.intro (HR8.out.2.1.below HC10.out) (HR8.out.2.2.below HC10.out))))
        | (go_at_call 16; (with_reducible refine (CI.out _ _ _ _ _ _ _ ?_ ?_ ?_).mono ?_); (exact ⟨_, HR10.out.1⟩); (exact ⟨_, HR10.out.2.1⟩); (exact ⟨_, HR10.out.2.2⟩); rintro e w11 ⟨rfl, hb11⟩; have HC11 : Hid (Below w9.heap.size w9 w11) := (by first | exact HC10.out.trans (hb11.mono HC10.out.size))))
    all_goals
      have HB11 := Lib.hid (HB9.out.trans (HC11.out.mono HB9.out.size))
      have HR11 := Lib.hid (And.intro (HR8.out.1.below HC11.out) (And.intro (HR8.out.2.1.below HC11.out) (HR8.out.2.2.below HC11.out)))
      have K11 := Lib.hid (fun (W : World) (h : Below w11.heap.size w11 W) => (K9.out _ (HC11.out.trans (h.mono HC11.out.size)) : W.cell? ⟨w.heap.size, 0, none⟩ = some (.int .i64 l) ∧ W.cell? ⟨w.heap.size, 1, none⟩ = some (.int .i64 b) ∧ W.cell? ⟨w.heap.size + 1, 0, none⟩ = some (.slice A V.length c) ∧ W.cell? ⟨w.heap.size + 1, 1, none⟩ = some (.slice A' M.length c') ∧ W.cell? ⟨w.heap.size + 1, 2, none⟩ = some (.slice A'' Y.length c'') ∧ W.cell? ⟨w8.heap.size, 0, none⟩ = some (.slice A8 V.length c8) ∧ W.cell? ⟨w8.heap.size, 1, none⟩ = some (.slice B8 M.length d8) ∧ W.cell? ⟨w8.heap.size, 2, none⟩ = some (.slice D8 Y.length f8)))
      go_wp2_with fail
      go_region_held3 (fun W => W.cell? ⟨w.heap.size, 0, none⟩ = some (.int .i64 l) ∧ W.cell? ⟨w.heap.size, 1, none⟩ = some (.int .i64 b) ∧ W.cell? ⟨w.heap.size + 1, 0, none⟩ = some (.slice A V.length c) ∧ W.cell? ⟨w.heap.size + 1, 1, none⟩ = some (.slice A' M.length c') ∧ W.cell? ⟨w.heap.size + 1, 2, none⟩ = some (.slice A'' Y.length c'') ∧ W.cell? ⟨w8.heap.size, 0, none⟩ = some (.slice A8 V.length c8) ∧ W.cell? ⟨w8.heap.size, 1, none⟩ = some (.slice B8 M.length d8) ∧ W.cell? ⟨w8.heap.size, 2, none⟩ = some (.slice D8 Y.length f8))
        (first | exact K11.out _ HC13.out | exact K11.out _ HC12.out | exact K11.out _ (Below.refl _ _) | exact K11.out _ (Below.refl _ _).drew | go_keep)
        (first
          | (go_at_call 15; (with_reducible refine (CT.out _ ?_).mono ?_); (first | exact HB11.out.drew | exact HB11.out); rintro e w12 ⟨A12, c12, B12, d12, D12, f12, rfl, rv12, rm12, ry12, hb12⟩; have HC12 : Hid (Below w11.heap.size w11 w12) := (by first | exact ((Below.refl _ w11).drew).trans (hb12.mono (Nat.le_refl _)) | exact hb12); have HR12 := Lib.hid (And.intro (And.intro rv12 (And.intro rm12 ry12)) (And.intro (HR11.out.1.below HC12.out) (And.intro (HR11.out.2.1.below HC12.out) (HR11.out.2.2.below HC12.out)))))
          | (go_at_call 17; (with_reducible refine (CE.out _ _ _ _ _ _ _ _ _ _ _ _ _ ?_ ?_ ?_ ?_ ?_ ?_).mono ?_); (exact ⟨_, HR12.out.2.1⟩); (exact ⟨_, HR12.out.2.2.1⟩); (exact ⟨_, HR12.out.2.2.2⟩); (exact ⟨_, HR12.out.1.1⟩); (exact ⟨_, HR12.out.1.2.1⟩); (exact ⟨_, HR12.out.1.2.2⟩); rintro e w13 ⟨rfl, hb13⟩; have HC13 : Hid (Below w11.heap.size w11 w13) := (by first | exact HC12.out.trans (hb13.mono HC12.out.size))))
      all_goals
        have HB13 := Lib.hid (HB11.out.trans (HC13.out.mono HB11.out.size))
        go_wp2
        go_ret
        exact ⟨rfl, HB13.out⟩
end Go.Proofs.Ytkdgnadidmagdaa.Wds
