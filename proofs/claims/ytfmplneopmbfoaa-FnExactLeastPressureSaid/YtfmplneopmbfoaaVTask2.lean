/-
  Whether tasks are valid: the model's function and the code's own, one contract each; the sets of what tasks need.
-/
import Derived.Test.YtfmplneopmbfoaaVTask
import Derived.Test.YtfmplneopmbfoaaStT
namespace Go.Proofs.Ytfmplneopmbfoaa.Wds
open Go.RowKit
set_option linter.unusedVariables false

set_option maxHeartbeats 1000000 in
theorem sIsT_any (A : Option Addr) (n c : Nat) (ts : List Tk.T) (B : Nat) (w : World) (hn : Ln.totL (Tk.nss ts) ≤ 1048576) (h : RdT w B A n ts) :
    Calls Try.prog 72 #[.slice A n c] w fun e w' => e = .returned (.bool (Tk.valid ts)) ∧ Below w.heap.size w w' := by
  have hl := h.len
  have hnn : n ≤ 1048576 := by unfold Ln.totL at hn; rw [Tk.nss_len] at hn; omega
  have HT := Lib.hid hn
  have HL := Lib.hid hl
  have H := Lib.hid h; clear h hn hl
  obtain ⟨r, hr⟩ : ∃ r, r = Tk.valid ts := ⟨_, rfl⟩
  rw [← hr]
  have HR := Lib.hid hr; clear hr
  by_cases h8 : n ≤ 8
  rotate_left
  · have e : r = false := by rw [HR.out]; exact Tk.valid_long (by rw [HL.out]; omega)
    subst e
    have d : (8 : Int) < (n : Int) := by omega
    have d2 : decide ((8 : Int) < (n : Int)) = true := decide_eq_true d
    go_enter Try.func72, Try.ntmps72
    go_wp2
    go_ret
    exact ⟨rfl, Below.refl _ _⟩
  have d : ¬ (8 : Int) < (n : Int) := by omega
  have d2 : decide ((8 : Int) < (n : Int)) = false := decide_eq_false d
  go_enter Try.func72, Try.ntmps72
  go_wp2
  go_loopw [3] (fun i wr => ∃ k : Nat, k ≤ n ∧ i = .int .i64 k ∧ Hid (∀ j, j < k → Tk.tok j (Tk.nth ts j) = true) ∧ Below w.heap.size w wr) (fun i _ => n - (intOf i).toNat)
  case atStart => exact ⟨0, Nat.zero_le _, rfl, Lib.hid (fun j hj => absurd hj (Nat.not_lt_zero _)), Below.refl _ _⟩
  case round =>
    obtain ⟨k, hk, rfl, HA, hb⟩ := hrel
    by_cases hlt : k < n
    · obtain ⟨g, o, R, m, cm, rfl, hg, hc, hmc, hr⟩ := (H.out.below hb).at_ hlt
      have HLT := Lib.hid (show k < ts.length by rw [HL.out]; exact hlt)
      have hm : m ≤ 1048576 := by
        have h1 := Ln.row_le (Tk.nss ts) k (by rw [Tk.nss_len, HL.out]; exact hlt)
        have h2 := hr.len
        have h3 := HT.out
        rw [Tk.nss_getD] at h1
        unfold Ln.totL at h3
        omega
      obtain ⟨tk, htk⟩ : ∃ x, x = Tk.nth ts k := ⟨_, rfl⟩
      rw [← htk] at hc hr
      have HTK := Lib.hid htk
      obtain ⟨tp, tl, tz⟩ := tk
      obtain ⟨c0, c1, c2⟩ := hc
      simp only at c0 c1 c2 hr
      have HB := Lib.hid hb; clear hb htk hmc
      have i1 : (0 : Int) ≤ (k : Int) := by omega
      have i2 : (k : Int) < (n : Int) := by omega
      have hs : IntKind.i64.wrap ((k : Int) - 1) = (k : Int) - 1 := IntWalk.i64_in _ (by omega)
      obtain ⟨b0, h0⟩ : ∃ z, z = decide (0 ≤ tp ∧ tp ≤ 2) := ⟨_, rfl⟩
      obtain ⟨b1, h1⟩ : ∃ z, z = decide (1 ≤ tl ∧ tl ≤ 6) := ⟨_, rfl⟩
      obtain ⟨b2, h2⟩ : ∃ z, z = Tk.ups ((k : Int) - 1) tz := ⟨_, rfl⟩
      have C0 := Lib.hid (fun W => inB_any tp 0 2 W)
      have C1 := Lib.hid (fun W => inB_any tl 1 6 W)
      have C2 := Lib.hid (sRises_any R m cm tz B ((k : Int) - 1) wr hm hr)
      rw [← h0] at C0
      rw [← h1] at C1
      rw [← h2] at C2
      have HO := Lib.hid (show Tk.tok k ⟨tp, tl, tz⟩ = (b0 && b1 && b2) by rw [h0, h1, h2]; rfl)
      rw [HTK.out] at HO
      clear h0 h1 h2 hr
      have HBAD := Lib.hid (fun (e : (b0 && b1 && b2) = false) => (show r = false by rw [HR.out]; exact Tk.valid_bad HLT.out (by rw [HO.out]; exact e)))
      cases b0
      · have e : r = false := HBAD.out rfl
        subst e
        go_wp2_with fail
        refine (C0.out _).mono ?_
        rintro e w' ⟨rfl, rfl⟩
        go_wp2
        go_ret
        exact ⟨rfl, HB.out⟩
      · cases b1
        · have e : r = false := HBAD.out rfl
          subst e
          go_wp2_with fail
          refine (C0.out _).mono ?_
          rintro e w' ⟨rfl, rfl⟩
          go_wp2_with fail
          refine (C1.out _).mono ?_
          rintro e w' ⟨rfl, rfl⟩
          go_wp2
          go_ret
          exact ⟨rfl, HB.out⟩
        · cases b2
          · have e : r = false := HBAD.out rfl
            subst e
            go_wp2_with fail
            refine (C0.out _).mono ?_
            rintro e w' ⟨rfl, rfl⟩
            go_wp2_with fail
            refine (C1.out _).mono ?_
            rintro e w' ⟨rfl, rfl⟩
            go_wp2_with fail
            refine C2.out.mono ?_
            rintro e w1 ⟨rfl, hb1⟩
            have HB1 := Lib.hid (HB.out.trans (hb1.mono HB.out.size)); clear hb1
            go_wp2
            go_ret
            exact ⟨rfl, HB1.out⟩
          · go_wp2_with fail
            refine (C0.out _).mono ?_
            rintro e w' ⟨rfl, rfl⟩
            go_wp2_with fail
            refine (C1.out _).mono ?_
            rintro e w' ⟨rfl, rfl⟩
            go_wp2_with fail
            refine C2.out.mono ?_
            rintro e w1 ⟨rfl, hb1⟩
            have HB1 := Lib.hid (HB.out.trans (hb1.mono HB.out.size)); clear hb1
            go_wp2
            go_roundw
            case rel =>
              refine ⟨k + 1, by omega, by go_num, Lib.hid (fun j hj => ?_), HB1.out⟩
              rcases Nat.lt_or_ge j k with h | h
              · exact HA.out j h
              · obtain rfl : j = k := by omega
                exact HO.out
            case measure => simp [intOf]; omega
    · have hkn : k = n := by omega
      have e : r = true := by rw [HR.out]; exact Tk.valid_all (by rw [HL.out]; exact h8) (fun j hj => HA.out j (by rw [HL.out] at hj; omega))
      have HB := Lib.hid hb; clear hb hkn
      subst e
      go_wp2
      go_ret
      exact ⟨rfl, HB.out⟩
/-- The sets as they grow: those below k are done. -/
def nd (ts : List Tk.T) (n k : Nat) : List Nat := (List.range n).map fun j => if j < k then Tk.need ts j else 0
theorem nd_len (ts : List Tk.T) (n k : Nat) : (nd ts n k).length = n := by simp [nd]
theorem nd_zero (ts : List Tk.T) (n : Nat) : nd ts n 0 = List.replicate n 0 := by
  refine List.ext_getElem (by simp [nd]) fun j h1 h2 => ?_
  simp [nd]
theorem nd_set (ts : List Tk.T) (n k : Nat) (h : k < n) : (nd ts n k).set k (Tk.need ts k) = nd ts n (k + 1) := by
  refine List.ext_getElem (by simp [nd]) fun j h1 h2 => ?_
  rw [List.getElem_set]
  by_cases e : k = j
  · subst e; simp [nd]
  · rw [if_neg e]
    simp only [nd, List.getElem_map, List.getElem_range]
    by_cases h3 : j < k
    · rw [if_pos h3, if_pos (by omega)]
    · rw [if_neg h3, if_neg (by omega)]
theorem nd_all (ts : List Tk.T) (n : Nat) (h : ts.length = n) : nd ts n n = Tk.needs ts := by
  unfold nd Tk.needs
  rw [h]
  refine List.map_congr_left fun j hj => ?_
  rw [if_pos (List.mem_range.1 hj)]
/-- The sets of what tasks need are returned, if the tasks are valid: their row is new. -/
def RetN (ts : List Tk.T) (n : Nat) (w : World) (e : Ending) (w' : World) : Prop :=
  (Tk.valid ts = true ∧ ∃ g, e = .returned (.tuple #[.slice (some ⟨g, 0, none⟩) n n, .bool true]) ∧ w.heap.size ≤ g ∧ BlkU w' g (cllU (Tk.needs ts)) ∧ Below w.heap.size w w') ∨
  (Tk.valid ts = false ∧ e = .returned (.tuple #[.slice none 0 0, .bool false]) ∧ Below w.heap.size w w')
set_option maxRecDepth 100000 in
set_option maxHeartbeats 2000000 in
theorem needsOf_any (A : Option Addr) (n c : Nat) (ts : List Tk.T) (B : Nat) (w : World) (hn : Ln.totL (Tk.nss ts) ≤ 1048576) (h : RdT w B A n ts) :
    Calls Try.prog 56 #[.slice A n c] w (RetN ts n w) := by
  obtain ⟨i0, hi, hz0, hz1, hz2⟩ := info_parts A_infoU
  have hl := h.len
  have hnn : n ≤ 1048576 := by unfold Ln.totL at hn; rw [Tk.nss_len] at hn; omega
  have HT := Lib.hid hn
  have HL := Lib.hid hl
  have H := Lib.hid h; clear h hn hl
  by_cases h8 : n ≤ 8
  rotate_left
  · have hv : Tk.valid ts = false := Tk.valid_long (by rw [HL.out]; omega)
    have HV := Lib.hid hv; clear hv
    have d : (8 : Int) < (n : Int) := by omega
    have d2 : decide ((8 : Int) < (n : Int)) = true := decide_eq_true d
    go_enter Try.func56, Try.ntmps56
    go_wp2
    go_ret2
    exact .inr ⟨HV.out, rfl, Below.refl _ _⟩
  have d : ¬ (8 : Int) < (n : Int) := by omega
  have d2 : decide ((8 : Int) < (n : Int)) = false := decide_eq_false d
  go_enter Try.func56, Try.ntmps56
  go_wp2_with (refine wpList_make_u _ rfl _ _ _ rfl i0 Try.underlying67 hi hz0 hz1 hz2 _ _ _ _ n rfl rfl rfl rfl (by omega) ?_)
  go_loopw [17] (fun i wr => ∃ k : Nat, k ≤ n ∧ i = .int .i64 k ∧ Hid (∀ j, j < k → Tk.tok j (Tk.nth ts j) = true) ∧ BlkU wr w.heap.size (cllU (nd ts n k)) ∧ Below w.heap.size w wr) (fun i _ => n - (intOf i).toNat)
  case atStart => exact ⟨0, Nat.zero_le _, rfl, Lib.hid (fun j hj => absurd hj (Nat.not_lt_zero _)), by rw [nd_zero]; exact BlkU.new _ _, (Below.refl _ _).alloc (Nat.le_refl _) _⟩
  case round =>
    rename World => wo
    obtain ⟨k, hk, rfl, HA, hblk, hb⟩ := hrel
    by_cases hlt : k < n
    · obtain ⟨g, o, R, m, cm, rfl, hg, hc, hmc, hr⟩ := (H.out.below hb).at_ hlt
      have HLT := Lib.hid (show k < ts.length by rw [HL.out]; exact hlt)
      have hm : m ≤ 1048576 := by
        have h1 := Ln.row_le (Tk.nss ts) k (by rw [Tk.nss_len, HL.out]; exact hlt)
        have h2 := hr.len
        have h3 := HT.out
        rw [Tk.nss_getD] at h1
        unfold Ln.totL at h3
        omega
      obtain ⟨tk, htk⟩ : ∃ x, x = Tk.nth ts k := ⟨_, rfl⟩
      rw [← htk] at hc hr
      have HTK := Lib.hid htk
      have HND := Lib.hid (show Tk.need ts k = Sc.doneOf tk.ns by rw [Tk.need, ← htk])
      obtain ⟨tp, tl, tz⟩ := tk
      obtain ⟨c0, c1, c2⟩ := hc
      simp only at c0 c1 c2 hr
      have i1 : (0 : Int) ≤ (k : Int) := by omega
      have i2 : (k : Int) < (n : Int) := by omega
      obtain ⟨b2, h2⟩ : ∃ z, z = Tk.ups ((k : Int) - 1) tz := ⟨_, rfl⟩
      have hbt := (Below.refl wo.heap.size wo).alloc (Nat.le_refl _) (.cells #[.int .i64 tp, .int .i64 tl, .slice R m cm] 65)
      have C2 := Lib.hid (setBelow_any k R m cm tz B (wo.alloc (.cells #[.int .i64 tp, .int .i64 tl, .slice R m cm] 65)) (by omega) hm (hr.below hbt))
      rw [← h2] at C2
      have HUP := Lib.hid h2
      have HO := Lib.hid (show Tk.tok k ⟨tp, tl, tz⟩ = (decide (0 ≤ tp ∧ tp ≤ 2) && decide (1 ≤ tl ∧ tl ≤ 6) && b2) by rw [h2]; rfl)
      rw [HTK.out] at HO
      have HBAD := Lib.hid (fun (e : (decide (0 ≤ tp ∧ tp ≤ 2) && decide (1 ≤ tl ∧ tl ≤ 6) && b2) = false) => (show Tk.valid ts = false from Tk.valid_bad HLT.out (by rw [HO.out]; exact e)))
      have HK := Lib.hid (BlkT.new wo #[.int .i64 tp, .int .i64 tl, .slice R m cm])
      have HU := Lib.hid (hblk.alloc (.cells #[.int .i64 tp, .int .i64 tl, .slice R m cm] 65))
      have HB := Lib.hid (hb.trans (hbt.mono hb.size))
      clear hb htk hmc hr h2 hbt hblk
      go_wp2_with fail
      refine C2.out.mono ?_
      rintro e w1 ⟨rfl, hb1⟩
      have hk1 := HK.out.keep hb1
      have p0 := hk1.cell 0
      have p1 := hk1.cell 1
      have HU1 := Lib.hid (HU.out.keep hb1)
      have HB1 := Lib.hid (HB.out.trans (hb1.mono HB.out.size))
      have HK1 := Lib.hid hk1
      clear hb1 hk1
      cases b2
      · have HV := Lib.hid (HBAD.out (by simp))
        go_wp2
        go_ret2
        exact .inr ⟨HV.out, rfl, HB1.out⟩
      · rw [if_pos rfl]
        by_cases a0 : tp < 0
        · have HV := Lib.hid (HBAD.out (by rw [decide_eq_false (show ¬ (0 ≤ tp ∧ tp ≤ 2) by omega)]; rfl))
          go_wp2_with (go_at_call 84; refine (within_lo _ _ _ _ (by omega)).mono ?_; rintro e w' ⟨rfl, rfl⟩)
          go_ret2
          exact .inr ⟨HV.out, rfl, HB1.out.alloc HB1.out.size _⟩
        · by_cases a1 : 2 < tp
          · have HV := Lib.hid (HBAD.out (by rw [decide_eq_false (show ¬ (0 ≤ tp ∧ tp ≤ 2) by omega)]; rfl))
            go_wp2_with (go_at_call 84; refine (within_hi _ _ _ _ (by omega) (by omega)).mono ?_; rintro e w' ⟨rfl, rfl⟩)
            go_ret2
            exact .inr ⟨HV.out, rfl, HB1.out.alloc HB1.out.size _⟩
          · by_cases a2 : tl < 1
            · have HV := Lib.hid (HBAD.out (by rw [decide_eq_false (show ¬ (1 ≤ tl ∧ tl ≤ 6) by omega)]; simp))
              go_wp2_with fail
              refine (within_in _ _ _ _ (by omega) (by omega)).mono ?_
              rintro e w' ⟨rfl, rfl⟩
              go_wp2_with fail
              refine (within_lo _ _ _ _ (by omega)).mono ?_
              rintro e w' ⟨rfl, rfl⟩
              go_wp2
              go_ret2
              exact .inr ⟨HV.out, rfl, HB1.out.alloc HB1.out.size _⟩
            · by_cases a3 : 6 < tl
              · have HV := Lib.hid (HBAD.out (by rw [decide_eq_false (show ¬ (1 ≤ tl ∧ tl ≤ 6) by omega)]; simp))
                go_wp2_with fail
                refine (within_in _ _ _ _ (by omega) (by omega)).mono ?_
                rintro e w' ⟨rfl, rfl⟩
                go_wp2_with fail
                refine (within_hi _ _ _ _ (by omega) (by omega)).mono ?_
                rintro e w' ⟨rfl, rfl⟩
                go_wp2
                go_ret2
                exact .inr ⟨HV.out, rfl, HB1.out.alloc HB1.out.size _⟩
              · have HG := Lib.hid (show Tk.tok k (Tk.nth ts k) = true by rw [HO.out, decide_eq_true (show 0 ≤ tp ∧ tp ≤ 2 by omega), decide_eq_true (show 1 ≤ tl ∧ tl ≤ 6 by omega)]; rfl)
                have n1 := HU1.out.frozen k
                obtain ⟨v0, n0⟩ : ∃ v, w1.cell? ⟨w.heap.size, k, none⟩ = some v := ⟨_, by rw [HU1.out.cell, cllU_get (by rw [nd_len]; exact hlt)]⟩
                obtain ⟨dn, hdn⟩ : ∃ x, x = Sc.doneOf tz := ⟨_, rfl⟩
                rw [← hdn]
                have hst := HU1.out.set_ k (.int .u32 (dn : Int))
                rw [cllU_set, show dn = Tk.need ts k by rw [HND.out, hdn], nd_set ts n k hlt] at hst
                rw [show Tk.need ts k = dn by rw [HND.out, hdn]] at hst
                have HST := Lib.hid hst
                have HB2 := Lib.hid (HB1.out.setCell (p := ⟨w.heap.size, k, none⟩) (Nat.le_refl _) (.int .u32 (dn : Int)))
                clear hst hdn
                go_wp2_with fail
                refine (within_in _ _ _ _ (by omega) (by omega)).mono ?_
                rintro e w' ⟨rfl, rfl⟩
                go_wp2_with fail
                refine (within_in _ _ _ _ (by omega) (by omega)).mono ?_
                rintro e w' ⟨rfl, rfl⟩
                go_wp2
                go_roundw
                case rel =>
                  refine ⟨k + 1, by omega, by go_num, Lib.hid (fun j hj => ?_), HST.out, HB2.out⟩
                  rcases Nat.lt_or_ge j k with h | h
                  · exact HA.out j h
                  · obtain rfl : j = k := by omega
                    exact HG.out
                case measure => simp [intOf]; omega
    · have hkn : k = n := by omega
      subst hkn
      have HV := Lib.hid (Tk.valid_all (ts := ts) (by rw [HL.out]; exact h8) (fun j hj => HA.out j (by rw [HL.out] at hj; omega)))
      rw [nd_all ts k HL.out] at hblk
      have HU := Lib.hid hblk
      have HB := Lib.hid hb; clear hb hblk
      go_wp2
      go_ret2
      exact .inl ⟨HV.out, _, rfl, Nat.le_refl _, HU.out, HB.out⟩
end Go.Proofs.Ytfmplneopmbfoaa.Wds
