/-
  The walk of the law FnSpilled: for every input that can be read it returns true, and nothing that was there has changed.
-/
import Derived.Test.YtfmplneopmbfoaaDoorDrawG
import Derived.Test.YtfmplneopmbfoaaDoorDraw8
import Derived.Test.YtfmplneopmbfoaaDoorWidth
import Derived.Test.YtfmplneopmbfoaaDoorISpl
import Derived.Test.YtfmplneopmbfoaaDoorSpF
import Derived.Test.YtfmplneopmbfoaaDoorCntH
namespace Go.Proofs.YtfmplneopmbfoaaDoor.Wds
open Go.RowKit
set_option linter.unusedVariables false

theorem wid_yes (A : Option Addr) (n c : Nat) (ss : List Rg.R) (B : Nat) (w : World) (hn : n ≤ 1048576) (hv : Rg.valid ss = true) (h : RdG w B A n ss) :
    Calls Tryd.prog 9 #[.slice A n c] w (RetIB (Rg.width ss : Nat) true w) := by
  have := iWidthOf_any A n c ss B w hn h
  rw [Rg.widthOf, if_pos hv] at this
  exact this
theorem owns_under {w w' : World} {B : Nat} {v : Value} {n : Nat} {xs : List Value} (h : w.ownsRow B 34 2 v n xs) (hb : Below w.heap.size w w') : w'.ownsRow B 34 2 v n xs :=
  h.kept (row := none) ⟨hb.os, hb.tape, hb.output, hb.size, fun i hi _ => hb.block i hi⟩ (by cases v.ownBlock <;> simp)
/-- Two rows of the call's own: the ranges that were kept, and those without the dropped ones. -/
structure Two (B : Nat) (p q : Nat → Bool) (ss : List Rg.R) (w : World) (k : Nat) (u v : Value) (wr : World) : Prop where
  a : wr.ownsRow B 34 2 u (Rg.cnt p k) (cllG (Sp.keep ss p k)).toList
  b : wr.ownsRow B 34 2 v (Rg.cnt q k) (cllG (Sp.keep ss q k)).toList
  s : ∀ x, u.ownBlock = some x → v.ownBlock ≠ some x
  h : Below B w wr
theorem Two.under {B : Nat} {p q : Nat → Bool} {ss : List Rg.R} {w wr w' : World} {k : Nat} {u v : Value} (t : Two B p q ss w k u v wr) (hs : B ≤ wr.heap.size) (hb : Below wr.heap.size wr w') : Two B p q ss w k u v w' :=
  ⟨owns_under t.a hb, owns_under t.b hb, t.s, t.h.trans (hb.mono hs)⟩
def SpLoop (B n s : Nat) (p : Nat → Bool) (ss : List Rg.R) (w : World) (u v f i : Value) (wr : World) : Prop :=
  ∃ k D : Nat, k ≤ n ∧ i = .int .i64 k ∧ f = .int .i64 (Rg.cnt D.testBit k : Nat) ∧ D < 2 ^ k ∧ (0 < s → Rg.cnt D.testBit k < s) ∧ Two B p (Sp.out D) ss w k u v wr
theorem SpLoop.drop {B n s k D : Nat} {p : Nat → Bool} {ss : List Rg.R} {w wr : World} {u v f : Value} (hk : k < n) (hD : D < 2 ^ k) (hf : f = .int .i64 ((Rg.cnt D.testBit k : Nat) + 1 : Int)) (hl : Rg.cnt D.testBit k + 1 < s)
    (ha : wr.ownsRow B 34 2 u (Rg.cnt p (k + 1)) (cllG (Sp.keep ss p (k + 1))).toList) (hb : wr.ownsRow B 34 2 v (Rg.cnt (Sp.out D) k) (cllG (Sp.keep ss (Sp.out D) k)).toList) (hs : ∀ x, u.ownBlock = some x → v.ownBlock ≠ some x) (hw : Below B w wr) :
    SpLoop B n s p ss w u v f (.int .i64 ((k : Int) + 1)) wr := by
  refine ⟨k + 1, D ||| 2 ^ k, by omega, by go_num, by rw [hf, Sp.drop_cnt]; go_num, Sp.drop_set hD, fun _ => by rw [Sp.drop_cnt]; exact hl, ha, ?_, hs, hw⟩
  rw [Sp.drop_keep, Sp.drop_out]; exact hb
theorem SpLoop.stay {B n s k D : Nat} {p : Nat → Bool} {ss : List Rg.R} {w wr : World} {u v f : Value} (hk : k < n) (hD : D < 2 ^ k) (hf : f = .int .i64 (Rg.cnt D.testBit k : Nat)) (hl : 0 < s → Rg.cnt D.testBit k < s)
    (ha : wr.ownsRow B 34 2 u (Rg.cnt p (k + 1)) (cllG (Sp.keep ss p (k + 1))).toList) (hb : wr.ownsRow B 34 2 v (Rg.cnt (Sp.out D) k + 1) (cllG (Sp.keep ss (Sp.out D) k ++ [Rg.nth ss k])).toList) (hs : ∀ x, u.ownBlock = some x → v.ownBlock ≠ some x) (hw : Below B w wr) :
    SpLoop B n s p ss w u v f (.int .i64 ((k : Int) + 1)) wr := by
  refine ⟨k + 1, D, by omega, by go_num, by rw [hf, Sp.stay_cnt hD], Sp.stay_set hD, fun h => by rw [Sp.stay_cnt hD]; exact hl h, ha, ?_, hs, hw⟩
  rw [Sp.stay_keep ss hD, Sp.stay_out hD]; exact hb
set_option maxHeartbeats 40000000 in
set_option maxRecDepth 100000 in
theorem law_spilled (a0 : Option Addr) (len0 cap0 : Nat) (z0 : List Int) (a1 : Option Addr) (len1 cap1 : Nat) (z1 : List Int) (w : World) (r0 : IsRow .u8 w a0 len0 cap0 z0) (r1 : IsRow .u8 w a1 len1 cap1 z1) (hTab : TabT w) :
    Calls Tryd.prog 4 #[.slice a0 len0 cap0, .slice a1 len1 cap1] w fun e w' => e = .returned (.bool true) ∧ Below w.heap.size w w' := by
  obtain ⟨i0, hi0, hz0, hz1, hz2⟩ := info_parts A_infoG
  have cl := r8long_any a0 a1 len0 cap0 len1 cap1 w r0.len' r1.len'
  have HT := Lib.hid hTab; clear hTab
  by_cases hlong : 48 < len0 ∨ 48 < len1
  · rw [decide_eq_true hlong] at cl
    have CL := Lib.hid cl
    clear cl hlong r0 r1
    go_enter Tryd.func4, Tryd.ntmps4
    go_wp2_with fail
    refine CL.out.mono ?_
    rintro e w' ⟨rfl, rfl⟩
    go_wp2_with fail
    go_ret
    exact ⟨rfl, Below.refl _ _⟩
  · rw [decide_eq_false hlong] at cl
    have CL := Lib.hid cl
    have R0 := Lib.hid (fun (W : World) (hb : Below w.heap.size w W) => r0.below hb r0.block)
    have R1 := Lib.hid (fun (W : World) (hb : Below w.heap.size w W) => r1.below hb r1.block)
    clear cl hlong r0 r1
    go_enter Tryd.func4, Tryd.ntmps4
    go_wp2_with fail
    refine CL.out.mono ?_
    rintro e w' ⟨rfl, rfl⟩
    go_wp2_with fail
    refine (r8ranges_any _ _ _ z0 _ (R0.out _ (Below.refl _ _))).mono ?_
    rintro e w1 ⟨A, n, c, ss, rfl, _, hn8, hv, hr, hb⟩
    have HV := Lib.hid hv
    have HLN := Lib.hid hr.len
    have HR1 := Lib.hid hr
    have HB1 := Lib.hid hb; clear hv hr hb
    go_wp2_with fail
    refine (r8at_any 0 5 _ _ _ z1 _ (by omega) (by omega) (by omega) (by omega) (R1.out _ HB1.out)).mono ?_
    rintro e w3 ⟨r, rfl, hr0, hr6, rfl⟩
    have ca := iFewestSpills_any A n c ss _ r w1 (by omega) HR1.out (HT.out.below HB1.out HT.out.lt)
    rw [Sp.fewest_if HV.out hr0 (by omega)] at ca
    have CA := Lib.hid ca; clear ca
    go_wp2_with fail
    refine CA.out.mono ?_
    rintro e w4 ⟨A5, s, c5, rfl, ho, hs, hb⟩
    have HSL := Lib.hid ho.len
    have HR4 := Lib.hid ((HR1.out.below hb).more hb.size)
    have HL4 := Lib.hid ho.rd
    have HB4 := Lib.hid (HB1.out.trans (hb.mono HB1.out.size)); clear ho hb HB1 CA HR1
    have HHAS := Lib.hid (fun (k : Nat) (hk : k < n) => Sp.has_out (rs := ss) (by rw [HLN.out]; omega) r (k := k) (by rw [HLN.out]; exact hk))
    obtain ⟨p, hp⟩ : ∃ p, p = Sp.out (Sp.top ss r) := ⟨_, rfl⟩
    rw [← hp] at HHAS
    have HP := Lib.hid hp; clear hp
    have hcn := Sp.kept_cnt (rs := ss) (by rw [HLN.out]; omega) r
    rw [HLN.out, HSL.out, ← HP.out] at hcn
    have HK := Lib.hid hcn
    have hsn : s ≤ n := by omega
    clear hcn
    go_wp2
    go_loopw [9, 10, 11, 12] (fun u v f i wr => SpLoop w4.heap.size n s p ss w4 u v f i wr) (fun _ _ _ i _ => n - (intOf i).toNat)
    case atStart =>
      refine ⟨0, 0, Nat.zero_le _, rfl, rfl, by decide, fun h => h, ?_, ?_, ?_, ((Below.refl _ _).alloc (Nat.le_refl _) _).alloc (by simp) _⟩
      · exact (own_newG w4 w4.heap.size (Nat.le_refl _)).alloc _
      · have := own_newG (w4.alloc (.cells #[] 34)) w4.heap.size (by simp)
        simp at this
        exact this
      · intro x h1 h2
        simp [Value.ownBlock] at h1 h2
        omega
    case round =>
      rename World => wr
      obtain ⟨k, D, hk, rfl, rfl, hD, hl, two⟩ := hrel
      have HSZ := Lib.hid two.h.size
      have HTW := Lib.hid two; clear two
      have HD := Lib.hid hD; clear hD
      by_cases hlt : k < n
      · have hhas := HHAS.out k hlt
        have cH := r8has_any A5 s c5 (Sp.fewest ss r) _ (k : Int) wr (by omega) (HL4.out.below HTW.out.h)
        rw [hhas] at cH
        have CH := Lib.hid cH; clear cH hhas
        have i1 : (0 : Int) ≤ (k : Int) := by omega
        have i2 : (k : Int) < (n : Int) := by omega
        obtain ⟨f, hf⟩ : ∃ f, f = Rg.cnt D.testBit k := ⟨_, rfl⟩
        rw [← hf] at hl ⊢
        have HF := Lib.hid hf; clear hf
        have HL := Lib.hid hl; clear hl
        have hfk : f ≤ k := by rw [HF.out]; exact Rg.cnt_le _ _
        have hck := Rg.cnt_le p k
        have hcq := Rg.cnt_le (Sp.out D) k
        go_wp2_with fail
        refine CH.out.mono ?_
        rintro e w5 ⟨rfl, hb⟩
        have HT5 := Lib.hid (HTW.out.under HSZ.out hb)
        have HS5 := Lib.hid (Nat.le_trans HSZ.out hb.size)
        clear hb CH HTW HSZ
        cases hpk : p k
        · have KP := Sp.no_keep ss hpk
          have HKA := Lib.hid HT5.out.a
          rw [← KP.1, ← KP.2] at HKA
          have HKB := Lib.hid HT5.out.b
          have HKS := Lib.hid HT5.out.s
          have HKW := Lib.hid HT5.out.h
          clear KP HT5
          go_wp2_with fail
          refine (r8at_any ((k : Int) + 1) 3 _ _ _ z1 _ (by omega) (by omega) (by omega) (by omega) (R1.out _ (HB4.out.trans (HKW.out.mono HB4.out.size)))).mono ?_
          rintro e w7 ⟨z, rfl, hz0', hz3, rfl⟩
          by_cases hz : z = 0
          · subst hz
            by_cases hfs : (f : Int) + 1 < (s : Int)
            · go_wp2
              go_roundw
              case rel => exact SpLoop.drop (D := D) hlt HD.out (by rw [HF.out]) (by rw [← HF.out]; omega) HKA.out HKB.out HKS.out HKW.out
              case measure => simp [intOf]; omega
            · skip
              obtain ⟨g', o', eg, hg', c0, c1⟩ := (HR4.out.below HKW.out).at_ hlt
              try (injection eg with eg; injection eg with e1 e2; subst e1; subst e2)
              try subst eg
              obtain ⟨y, hy⟩ : ∃ y, y = Rg.nth ss k := ⟨_, rfl⟩
              rw [← hy] at c0 c1
              have HY := Lib.hid hy; clear hy
              obtain ⟨fy, ty⟩ := y
              simp only at c0 c1
              go_wp2_with (at_builtin; refine wpList_pushG w5 rfl (.tmp 65) (.tmp 70) rfl i0 Tryd.underlying24 hi0 hz0 hz1 hz2 w4.heap.size _ _ (Sp.keep ss (Sp.out D) k) ⟨fy, ty⟩ rfl HKB.out rfl (by omega) HS5.out ?_)
              intro v' w8 hown8 hb8 hkeep8
              have KK := hkeep8.out _ _ _ HKA.out (fun b h1 h2 => HKS.out b h2 h1)
              rw [HY.out] at hown8
              have HZB := Lib.hid hown8
              have HZA := Lib.hid KK.1
              have HZS := Lib.hid KK.2
              have HZW := Lib.hid (HKW.out.trans hb8)
              clear KK hown8 hb8 hkeep8 c0 c1
              go_wp2
              go_roundw
              case rel => exact SpLoop.stay (D := D) hlt HD.out (by rw [HF.out]) (fun h => by rw [← HF.out]; exact HL.out h) HZA.out HZB.out (fun b h1 h2 => HZS.out b h2 h1) HZW.out
              case measure => simp [intOf]; omega
          · have hz' : (z == 0) = false := beq_eq_false_iff_ne.2 hz
            obtain ⟨g', o', eg, hg', c0, c1⟩ := (HR4.out.below HKW.out).at_ hlt
            try (injection eg with eg; injection eg with e1 e2; subst e1; subst e2)
            try subst eg
            obtain ⟨y, hy⟩ : ∃ y, y = Rg.nth ss k := ⟨_, rfl⟩
            rw [← hy] at c0 c1
            have HY := Lib.hid hy; clear hy
            obtain ⟨fy, ty⟩ := y
            simp only at c0 c1
            go_wp2_with (at_builtin; refine wpList_pushG w5 rfl (.tmp 65) (.tmp 70) rfl i0 Tryd.underlying24 hi0 hz0 hz1 hz2 w4.heap.size _ _ (Sp.keep ss (Sp.out D) k) ⟨fy, ty⟩ rfl HKB.out rfl (by omega) HS5.out ?_)
            intro v' w8 hown8 hb8 hkeep8
            have KK := hkeep8.out _ _ _ HKA.out (fun b h1 h2 => HKS.out b h2 h1)
            rw [HY.out] at hown8
            have HZB := Lib.hid hown8
            have HZA := Lib.hid KK.1
            have HZS := Lib.hid KK.2
            have HZW := Lib.hid (HKW.out.trans hb8)
            clear KK hown8 hb8 hkeep8 c0 c1
            go_wp2
            go_roundw
            case rel => exact SpLoop.stay (D := D) hlt HD.out (by rw [HF.out]) (fun h => by rw [← HF.out]; exact HL.out h) HZA.out HZB.out (fun b h1 h2 => HZS.out b h2 h1) HZW.out
            case measure => simp [intOf]; omega
        · have KP := Sp.yes_keep ss hpk
          have HKP := Lib.hid KP; clear KP
          obtain ⟨g, o, rfl, hg, c0, c1⟩ := (HR4.out.below HT5.out.h).at_ hlt
          obtain ⟨x, hx⟩ : ∃ x, x = Rg.nth ss k := ⟨_, rfl⟩
          rw [← hx] at c0 c1
          rw [← hx] at HKP
          have HX := Lib.hid hx; clear hx
          obtain ⟨fx, tx⟩ := x
          simp only at c0 c1
          go_wp2_with (at_builtin; refine wpList_pushG w5 rfl (.tmp 44) (.tmp 49) rfl i0 Tryd.underlying24 hi0 hz0 hz1 hz2 w4.heap.size _ _ (Sp.keep ss p k) ⟨fx, tx⟩ rfl HT5.out.a rfl (by omega) HS5.out ?_)
          intro u' w6 hown6 hb6 hkeep6
          have KK := hkeep6.out _ _ _ HT5.out.b HT5.out.s
          have HKA := Lib.hid hown6
          rw [← HKP.out.1, ← HKP.out.2] at HKA
          have HKB := Lib.hid KK.1
          have HKS := Lib.hid (fun (z : Nat) (h1 : u'.ownBlock = some z) (h2 : _) => KK.2 z h1 h2)
          have HKW := Lib.hid (HT5.out.h.trans hb6)
          have HS6 := Lib.hid (Nat.le_trans HS5.out hb6.size)
          clear KK hown6 hb6 hkeep6 HT5 c0 c1
          rw [HX.out] at HKP
          clear HX
          go_wp2_with fail
          refine (r8at_any ((k : Int) + 1) 3 _ _ _ z1 _ (by omega) (by omega) (by omega) (by omega) (R1.out _ (HB4.out.trans (HKW.out.mono HB4.out.size)))).mono ?_
          rintro e w7 ⟨z, rfl, hz0', hz3, rfl⟩
          by_cases hz : z = 0
          · subst hz
            by_cases hfs : (f : Int) + 1 < (s : Int)
            · go_wp2
              go_roundw
              case rel => exact SpLoop.drop (D := D) hlt HD.out (by rw [HF.out]) (by rw [← HF.out]; omega) HKA.out HKB.out HKS.out HKW.out
              case measure => simp [intOf]; omega
            · skip
              obtain ⟨g', o', eg, hg', c0, c1⟩ := (HR4.out.below HKW.out).at_ hlt
              try (injection eg with eg; injection eg with e1 e2; subst e1; subst e2)
              try subst eg
              obtain ⟨y, hy⟩ : ∃ y, y = Rg.nth ss k := ⟨_, rfl⟩
              rw [← hy] at c0 c1
              have HY := Lib.hid hy; clear hy
              obtain ⟨fy, ty⟩ := y
              simp only at c0 c1
              go_wp2_with (at_builtin; refine wpList_pushG w6 rfl (.tmp 65) (.tmp 70) rfl i0 Tryd.underlying24 hi0 hz0 hz1 hz2 w4.heap.size _ _ (Sp.keep ss (Sp.out D) k) ⟨fy, ty⟩ rfl HKB.out rfl (by omega) HS6.out ?_)
              intro v' w8 hown8 hb8 hkeep8
              have KK := hkeep8.out _ _ _ HKA.out (fun b h1 h2 => HKS.out b h2 h1)
              rw [HY.out] at hown8
              have HZB := Lib.hid hown8
              have HZA := Lib.hid KK.1
              have HZS := Lib.hid KK.2
              have HZW := Lib.hid (HKW.out.trans hb8)
              clear KK hown8 hb8 hkeep8 c0 c1
              go_wp2
              go_roundw
              case rel => exact SpLoop.stay (D := D) hlt HD.out (by rw [HF.out]) (fun h => by rw [← HF.out]; exact HL.out h) HZA.out HZB.out (fun b h1 h2 => HZS.out b h2 h1) HZW.out
              case measure => simp [intOf]; omega
          · have hz' : (z == 0) = false := beq_eq_false_iff_ne.2 hz
            obtain ⟨g', o', eg, hg', c0, c1⟩ := (HR4.out.below HKW.out).at_ hlt
            try (injection eg with eg; injection eg with e1 e2; subst e1; subst e2)
            try subst eg
            obtain ⟨y, hy⟩ : ∃ y, y = Rg.nth ss k := ⟨_, rfl⟩
            rw [← hy] at c0 c1
            have HY := Lib.hid hy; clear hy
            obtain ⟨fy, ty⟩ := y
            simp only at c0 c1
            go_wp2_with (at_builtin; refine wpList_pushG w6 rfl (.tmp 65) (.tmp 70) rfl i0 Tryd.underlying24 hi0 hz0 hz1 hz2 w4.heap.size _ _ (Sp.keep ss (Sp.out D) k) ⟨fy, ty⟩ rfl HKB.out rfl (by omega) HS6.out ?_)
            intro v' w8 hown8 hb8 hkeep8
            have KK := hkeep8.out _ _ _ HKA.out (fun b h1 h2 => HKS.out b h2 h1)
            rw [HY.out] at hown8
            have HZB := Lib.hid hown8
            have HZA := Lib.hid KK.1
            have HZS := Lib.hid KK.2
            have HZW := Lib.hid (HKW.out.trans hb8)
            clear KK hown8 hb8 hkeep8 c0 c1
            go_wp2
            go_roundw
            case rel => exact SpLoop.stay (D := D) hlt HD.out (by rw [HF.out]) (fun h => by rw [← HF.out]; exact HL.out h) HZA.out HZB.out (fun b h1 h2 => HZS.out b h2 h1) HZW.out
            case measure => simp [intOf]; omega
      · have hkn : k = n := by omega
        subst hkn
        have HE := Lib.hid (And.intro hl HTW.out); clear hl HTW
        obtain ⟨hl, two⟩ := HE.out
        obtain ⟨A9, c9, rfl, _, r9⟩ := rdG_of_row two.a (Sp.keep_len _ _ _)
        obtain ⟨A10, c10, rfl, _, r10⟩ := rdG_of_row two.b (Sp.keep_len _ _ _)
        have hv9 := Sp.keep_valid HV.out p
        have hv10 := Sp.keep_valid HV.out (Sp.out D)
        have hle : ((Rg.width (Sp.keep ss p ss.length) : Nat) : Int) ≤ r := by rw [HP.out]; exact Sp.kept_le hr0
        have hgt : 0 < s → r < ((Rg.width (Sp.keep ss (Sp.out D) ss.length) : Nat) : Int) := fun h => Sp.other_gt (by rw [HLN.out]; omega) (by rw [HLN.out]; exact HD.out) (by rw [HLN.out, HSL.out]; exact hl h)
        rw [HLN.out] at hv9 hv10 hle hgt
        obtain ⟨M9, hM9⟩ : ∃ M, M = Sp.keep ss p k := ⟨_, rfl⟩
        obtain ⟨M10, hM10⟩ : ∃ M, M = Sp.keep ss (Sp.out D) k := ⟨_, rfl⟩
        rw [← hM9] at r9 hv9 hle
        rw [← hM10] at r10 hv10 hgt
        obtain ⟨m9, hm9⟩ : ∃ m, m = Rg.cnt p k := ⟨_, rfl⟩
        obtain ⟨m10, hm10⟩ : ∃ m, m = Rg.cnt (Sp.out D) k := ⟨_, rfl⟩
        have hk9 := HK.out
        have hc10 := Rg.cnt_le (Sp.out D) k
        rw [← hm9] at r9 hk9 ⊢
        rw [← hm10] at r10 hc10 ⊢
        have C9 := Lib.hid (wid_yes A9 m9 c9 M9 _ wr (by omega) hv9 r9)
        have HR10 := Lib.hid (And.intro r10 hv10)
        have HBE := Lib.hid (HB4.out.trans (two.h.mono HB4.out.size))
        have hk9' : (m9 : Int) + (s : Int) = (k : Int) := by omega
        clear r9 r10 hv9 hv10 hM9 hM10 hm9 hm10 two hl HE
        obtain ⟨x9, hx9⟩ : ∃ x, x = Rg.width M9 := ⟨_, rfl⟩
        obtain ⟨x10, hx10⟩ : ∃ x, x = Rg.width M10 := ⟨_, rfl⟩
        rw [← hx9] at C9 hle
        rw [← hx10] at hgt
        have HX10 := Lib.hid hx10; clear hx9 hx10
        go_wp2_with fail
        refine C9.out.mono ?_
        rintro e w9 ⟨rfl, hb⟩
        have C10 := wid_yes A10 m10 c10 M10 _ w9 (by omega) HR10.out.2 (HR10.out.1.below hb)
        rw [← HX10.out] at C10
        have HC10 := Lib.hid C10
        have HB9 := Lib.hid (HBE.out.trans (hb.mono HBE.out.size)); clear hb HBE C10
        have hnle : ¬ r < ((x9 : Nat) : Int) := by omega
        go_wp2_with fail
        refine HC10.out.mono ?_
        rintro e w10 ⟨rfl, hb⟩
        have HB10 := Lib.hid (HB9.out.trans (hb.mono HB9.out.size)); clear hb HB9
        by_cases h0 : 0 < s
        · have hgt' := hgt h0
          have hs0 : ¬ (s : Int) = 0 := by omega
          clear hgt
          go_wp2
          go_ret
          exact ⟨rfl, HB10.out⟩
        · have hs0 : s = 0 := by omega
          subst hs0
          obtain rfl : m9 = k := by omega
          clear hgt
          go_wp2
          go_ret
          exact ⟨ret_bool (by simp), HB10.out⟩
end Go.Proofs.YtfmplneopmbfoaaDoor.Wds
