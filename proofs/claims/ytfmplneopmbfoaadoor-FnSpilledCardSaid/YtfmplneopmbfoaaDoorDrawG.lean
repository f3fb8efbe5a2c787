/-
  What the model's draw of ranges returns (a new row of at most eight valid ranges), over the translated program.
-/
import Derived.Test.YtfmplneopmbfoaaDoorDraw2
import Derived.Test.YtfmplneopmbfoaaDoorPshG
import Derived.LoopTactic
namespace Go.Proofs.YtfmplneopmbfoaaDoor.Wds
open Go.RowKit
set_option linter.unusedVariables false

theorem Src.belowB {w w' : World} {sb N C : Nat} {a : Option Addr} {len cap : Nat} {zs : List Int} (h : Src w sb N a len cap zs) (hb : Below C w w') (hC : sb < C) : Src w' sb N a len cap zs := by
  obtain ⟨pos, seed, h1, h2, h3, h4⟩ := h
  exact ⟨pos, seed, h1, (hb.block sb hC).trans h2, h3.below hb (fun x hx hz => by have := h4 x hx hz; omega), h4⟩
def DrawingG (n0 N B sb : Nat) (a : Option Addr) (len cap : Nat) (zs : List Int) (w : World) (v n : Value) (wr : World) : Prop :=
  ∃ (k : Nat) (ss : List Rg.R), k ≤ n0 ∧ n = .int .i64 ((n0 - k : Nat) : Int) ∧ ss.length = k ∧ ss.all Rg.ok = true ∧
    wr.ownsRow B 34 2 v k (cllG ss).toList ∧ Src wr sb (N + 4 * k) a len cap zs ∧ Below sb w wr ∧ B ≤ wr.heap.size
/-- Valid ranges that were drawn: at most eight, in a row that is new. -/
def DrawnG (w : World) (e : Ending) (w' : World) : Prop :=
  ∃ (A : Option Addr) (n c : Nat) (ss : List Rg.R), e = .returned (.slice A n c) ∧ n ≤ c ∧ n ≤ 8 ∧ Rg.valid ss = true ∧ RdG w' w'.heap.size A n ss ∧ Below w.heap.size w w'
set_option maxHeartbeats 1000000 in
theorem r8ranges_any (a : Option Addr) (len cap : Nat) (zs : List Int) (w : World) (h : IsRow .u8 w a len cap zs) : Calls Tryd.prog 8 #[.slice a len cap] w (DrawnG w) := by
  obtain ⟨i0, hi, hz0, hz1, hz2⟩ := info_parts A_infoG
  have HS := Lib.hid (src_new w a len cap zs h); clear h
  go_enter Tryd.func8, Tryd.ntmps8
  go_wp2_with fail
  refine (from_any _ _ _ _).mono ?_
  rintro e w' ⟨rfl, rfl⟩
  generalize hw1 : (World.alloc _ _) = w1 at HS
  have HB0 : Hid (Below w.heap.size w w1) := by subst hw1; exact Lib.hid ((Below.refl w.heap.size w).alloc (Nat.le_refl _) _)
  have hsz1 : w1.heap.size = w.heap.size + 1 := by subst hw1; simp
  clear hw1
  have hlt1 : w.heap.size < w.heap.size + 1 := by omega
  have HS2 := Lib.hid (HS.out.grown (World.grownBy_alloc w1 (.cells #[] 34) none) (by simp) (by intro r hr; cases hr))
  have ho2 := own_newG w1 w1.heap.size (Nat.le_refl _)
  rw [hsz1] at ho2
  have HO2 := Lib.hid ho2; clear ho2
  have HB2 := Lib.hid (HB0.out.alloc (by omega) (.cells #[] 34))
  have hsz2 : (w1.alloc (.cells #[] 34)).heap.size = w.heap.size + 1 + 1 := by simp [hsz1]
  go_wp2_with fail
  refine (pick_any 9 _ w.heap.size 0 a len cap zs HS2.out (by omega)).mono ?_
  rintro e w3 ⟨z, rfl, z0, z1, hA⟩
  have hs3 := hA.2.size
  have HO3 := Lib.hid (HO2.out.kept hA.2 (own_ne HO2.out hlt1))
  have HB3 := Lib.hid (HB2.out.trans (grown_below hA.2 (by omega) (Nat.le_refl _)))
  have HA3 := Lib.hid hA.1
  obtain ⟨n0, rfl⟩ := Int.eq_ofNat_of_zero_le z0
  have hn0 : n0 ≤ 8 := by have := z1 (by omega); omega
  clear z0 z1 hA HO2 HB2 HS2 HS HB0
  go_wp2
  go_loopw [4, 5] (fun v n wr => DrawingG n0 (0 + 2) (w.heap.size + 1) w.heap.size a len cap zs w v n wr) (fun _ n _ => (intOf n).toNat)
  case atStart => exact ⟨0, [], Nat.zero_le _, rfl, rfl, rfl, HO3.out, HA3.out.more (by omega), HB3.out, by omega⟩
  case round =>
    obtain ⟨k, ss, hk, rfl, hlen, hok, hown, hsrc, hbel, hsz⟩ := hrel
    by_cases hlt : k < n0
    · have hpos : (0 : Int) < ((n0 - k : Nat) : Int) := by omega
      have hle : ((n0 - k : Nat) : Int) ≤ 1000 := by omega
      obtain ⟨c, hc⟩ : ∃ c : Int, c = ((n0 - k : Nat) : Int) := ⟨_, rfl⟩
      rw [← hc] at hpos hle
      have HC := Lib.hid hc
      rw [← hc]; clear hc
      have HSRC := Lib.hid hsrc; clear hsrc
      have HOWN := Lib.hid hown; clear hown
      have HOK := Lib.hid (And.intro hok hlen); clear hok hlen
      have HBEL := Lib.hid hbel; clear hbel
      go_wp2_with fail
      refine (pick_any 12 _ w.heap.size (0 + 2 + 4 * k) a len cap zs HSRC.out (by omega)).mono ?_
      rintro e w4 ⟨f, rfl, f0, f1, hA⟩
      have hs4 := hA.2.size
      have HO4 := Lib.hid (HOWN.out.kept hA.2 (own_ne HOWN.out hlt1))
      have HB4 := Lib.hid (HBEL.out.trans (grown_below hA.2 (by have := HBEL.out.size; omega) (Nat.le_refl _)))
      have HS4 := Lib.hid hA.1
      have f2 : f ≤ 11 := by have := f1 (by omega); omega
      clear hA f1 HOWN HBEL HSRC
      go_wp2_with fail
      refine (pick_any 6 _ w.heap.size (0 + 2 + 4 * k + 2) a len cap zs HS4.out (by omega)).mono ?_
      rintro e w5 ⟨d, rfl, d0, d1, hA⟩
      have hs5 := hA.2.size
      have HO5 := Lib.hid (HO4.out.kept hA.2 (own_ne HO4.out hlt1))
      have HB5 := Lib.hid (HB4.out.trans (grown_below hA.2 (by have := HB4.out.size; omega) (Nat.le_refl _)))
      have HS5 := Lib.hid hA.1
      have d2 : d ≤ 5 := by have := d1 (by omega); omega
      clear hA d1 HO4 HB4 HS4
      go_wp2_with (at_builtin; refine wpList_pushG w5 rfl (.tmp 22) (.tmp 28) rfl i0 Tryd.underlying24 hi hz0 hz1 hz2 (w.heap.size + 1) _ k ss ⟨f, f + (1 + d)⟩ rfl HO5.out rfl (by omega) (by omega) ?_)
      intro v' w6 hown6 hb6 _
      have HO6 := Lib.hid hown6; clear hown6
      have HB6 := Lib.hid hb6; clear hb6
      go_wp2
      go_roundw
      case rel =>
        refine ⟨k + 1, ss ++ [⟨f, f + (1 + d)⟩], by omega, by rw [HC.out]; go_num, by rw [List.length_append, HOK.out.2]; rfl, ?_, HO6.out, (HS5.out.belowB HB6.out hlt1).more (by omega), HB5.out.trans (HB6.out.mono (by omega)), by have := HB6.out.size; omega⟩
        rw [List.all_append, HOK.out.1, Bool.true_and]
        simp [Rg.ok]
        omega
      case measure => simp [intOf]; omega
    · obtain ⟨c, hc⟩ : ∃ c : Int, c = ((n0 - k : Nat) : Int) := ⟨_, rfl⟩
      have hneg : ¬ 0 < c := by omega
      have hkn : k = n0 := by omega
      have HK := Lib.hid hkn; clear hkn
      rw [← hc]; clear hc
      have HALL := Lib.hid (And.intro hlen (And.intro hok (And.intro hown hbel))); clear hlen hok hown hsrc hbel
      go_wp2
      go_ret
      obtain ⟨hlen, hok, hown, hbel⟩ := HALL.out
      obtain ⟨A, c, rfl, hnc, hr⟩ := rdG_of_row hown hlen
      exact ⟨A, k, c, ss, rfl, hnc, by omega, by unfold Rg.valid; rw [hok, hlen]; simp; omega, hr, hbel⟩
end Go.Proofs.YtfmplneopmbfoaaDoor.Wds
