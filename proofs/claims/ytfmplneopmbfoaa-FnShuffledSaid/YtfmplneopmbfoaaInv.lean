/-
  Shuffles in which no lane is missing, and the shuffle that leads back: the code's and the model's functions; one contract each.
-/
import Derived.Test.YtfmplneopmbfoaaShuf
namespace Go.Proofs.Ytfmplneopmbfoaa.Wds
open Go.RowKit
set_option linter.unusedVariables false

/-- The first place of a number, or -1. -/
def idxOf (zs : List Int) (x : Int) : Int := if Ln.place zs x < zs.length then Ln.place zs x else -1
theorem idxOf_yes {zs : List Int} {x : Int} (h : Ln.place zs x < zs.length) : idxOf zs x = Ln.place zs x := if_pos h
theorem idxOf_no {zs : List Int} {x : Int} (h : ¬ Ln.place zs x < zs.length) : idxOf zs x = -1 := if_neg h
set_option maxHeartbeats 400000 in
theorem indexOf_any (A : Option Addr) (n c : Nat) (zs : List Int) (B : Nat) (x : Int) (w : World) (hn : n ≤ 1048576) (h : Rd w B A n zs) :
    Calls Try.prog 49 #[.slice A n c, .int .i64 x] w fun e w' => e = .returned (.int .i64 (idxOf zs x)) ∧ w = w' := by
  have H := Lib.hid h; clear h
  go_enter Try.func49, Try.ntmps49
  go_wp2
  go_loop [8] (fun i => ∃ k : Nat, k ≤ n ∧ i = .int .i64 k ∧ k ≤ Ln.place zs x) (fun i => n - (intOf i).toNat)
  case atStart => exact ⟨0, Nat.zero_le _, rfl, Nat.zero_le _⟩
  case round =>
    obtain ⟨k, hk, rfl, hkp⟩ := hrel
    have hln := H.out.len
    by_cases hlt : k < n
    · obtain ⟨g, o, rfl, hg, hc⟩ := H.out.at_ hlt
      by_cases hx : k < Ln.place zs x
      · have hne : (x == zs.getD k 0) = false := by rw [beq_eq_false_iff_ne]; exact fun e => Ln.place_ne hx e.symm
        have hnd : decide (x = zs.getD k 0) = false := decide_eq_false fun e => Ln.place_ne hx e.symm
        obtain ⟨z, hz⟩ : ∃ z, z = zs.getD k 0 := ⟨_, rfl⟩
        rw [← hz] at hc hne hnd
        have HX := Lib.hid hx
        clear hz hx hkp hln
        go_wp2
        go_round
        case rel => exact ⟨k + 1, by omega, by go_num, HX.out⟩
        case measure => simp [intOf]; omega
      · have hkk : Ln.place zs x = k := by omega
        have e : zs.getD k 0 = x := by rw [← hkk]; exact Ln.place_at (by omega)
        rw [e] at hc
        have HX := Lib.hid (And.intro hkk (show Ln.place zs x < zs.length by omega))
        clear e hkk hx hkp hln
        go_wp2
        go_ret
        exact ⟨by rw [idxOf_yes HX.out.2, HX.out.1]; rfl, rfl⟩
    · have HX := Lib.hid (show ¬ Ln.place zs x < zs.length by omega)
      clear hkp hln
      go_wp2
      go_ret
      exact ⟨by rw [idxOf_no HX.out]; rfl, rfl⟩
set_option maxHeartbeats 1000000 in
set_option maxRecDepth 100000 in
theorem iInverseShuffle_any (A : Option Addr) (n c : Nat) (zs : List Int) (B : Nat) (w : World) (hn : n ≤ 1048576) (h : Rd w B A n zs) :
    Calls Try.prog 19 #[.slice A n c] w (Ret1 (Ln.inverse zs).1 (Ln.inverse zs).2 w) := by
  obtain ⟨i0, hi0, hz0, hz1, hz2⟩ := info_parts A_info64
  have k1 := iIsShuffle_any A n c zs B w hn h
  have hl := h.len
  obtain ⟨P, hP⟩ : ∃ P, P = Ln.inverse zs := ⟨_, rfl⟩
  rw [← hP]
  unfold Ln.inverse Ln.ord at hP
  obtain ⟨u, hu⟩ : ∃ u, u = Ln.shuf zs := ⟨_, rfl⟩
  rw [← hu] at k1 hP
  have C1 := Lib.hid k1
  have H := Lib.hid h
  have HL := Lib.hid hl
  cases u
  · have HP := Lib.hid (show P = Ln.no by rw [hP]; rfl)
    clear k1 h hl hP hu
    go_enter Try.func19, Try.ntmps19
    go_wp2_with fail
    refine C1.out.mono ?_
    rintro e w1 ⟨rfl, hb⟩
    have HB := Lib.hid hb; clear hb
    go_wp2_with fail
    go_ret2
    rw [HP.out]
    exact Ret1.no HB.out
  · rw [Bool.true_and] at hP
    have HP := Lib.hid hP
    have HU := Lib.hid hu
    clear k1 h hl hP hu
    go_enter Try.func19, Try.ntmps19
    go_wp2_with fail
    refine C1.out.mono ?_
    rintro e w1 ⟨rfl, hb⟩
    have HB1 := Lib.hid hb; clear hb
    go_wp2_with (refine wpList_make_blk _ rfl _ _ _ rfl i0 Try.underlying25 hi0 hz0 hz1 hz2 _ _ _ _ n rfl rfl rfl rfl (by omega) ?_)
    go_loopw [15] (fun i wr => Fills (fun v => (Ln.place zs v : Int)) n w1.heap.size w1 i wr ∧ Ln.allIn (intOf i).toNat zs = true) (fun i _ => n - (intOf i).toNat)
    case atStart =>
      exact ⟨⟨0, Nat.zero_le _, rfl, by rw [Ln.fill_zero, ← clls_zero]; exact Blk.new _ _, (Below.refl _ _).alloc (Nat.le_refl _) _⟩, rfl⟩
    case round =>
      obtain ⟨⟨k, hk, rfl, hblk, hb⟩, hall⟩ := hrel
      have hall' : Ln.allIn k zs = true := hall
      have HA := Lib.hid hall'; clear hall hall'
      by_cases hlt : k < n
      · have C2 := Lib.hid (indexOf_any A n c zs B (k : Int) wr hn ((H.out.below HB1.out).below hb))
        have hv0 := hblk.has hk hlt
        have hf := hblk.frozen k
        generalize (Ln.fill (fun v => (Ln.place zs v : Int)) n k).getD k 0 = old at hv0
        have i1 : (0 : Int) ≤ (k : Int) := by omega
        have i2 : (k : Int) < (n : Int) := by omega
        obtain ⟨ct, hct⟩ : ∃ b, b = zs.contains (k : Int) := ⟨_, rfl⟩
        cases ct
        · have hp := Ln.place_not hct.symm
          rw [idxOf_no (by rw [hp]; omega)] at C2
          have HX := Lib.hid (show P = Ln.no by
            rw [HP.out, Ln.allIn_not (m := zs.length) (k := k) (by rw [HL.out]; exact hlt) hct.symm]; rfl)
          have HB := Lib.hid hb; clear hb hblk hct hp hv0 hf
          go_wp2_with fail
          refine C2.out.mono ?_
          rintro e w2 ⟨rfl, rfl⟩
          go_wp2_with fail
          go_ret2
          rw [HX.out]
          exact Ret1.no (HB1.out.trans (HB.out.mono HB1.out.size))
        · have hp := Ln.place_mem hct.symm
          rw [idxOf_yes hp] at C2
          rw [HL.out] at hp
          have HF := Lib.hid (Fills.step hlt (Nat.le_refl _) hb hblk (Ln.place zs k : Int) rfl)
          have HA1 := Lib.hid (show Ln.allIn (k + 1) zs = true by rw [Ln.allIn_succ, HA.out, ← hct]; rfl)
          generalize Ln.place zs k = q at C2 HF hp
          have q1 : (q : Int) ≤ 1048576 := by omega
          have q2 : (0 : Int) ≤ (q : Int) := by omega
          clear hb hblk hct hp
          go_wp2_with fail
          refine C2.out.mono ?_
          rintro e w2 ⟨rfl, rfl⟩
          go_wp2
          go_roundw
          case rel => exact ⟨HF.out, by have := HA1.out; simpa [intOf] using this⟩
          case measure => simp [intOf]; omega
      · have hkn : k = n := by omega
        have HALL := Lib.hid (And.intro hblk (And.intro hb hkn)); clear hblk hb hkn
        go_wp2
        go_ret2
        obtain ⟨hblk, hb, rfl⟩ := HALL.out
        rw [Ln.fill_all] at hblk
        have e : P = (Ln.tab (fun v => (Ln.place zs v : Int)) k, true) := by
          rw [HP.out]
          have h1 := HA.out
          rw [← HL.out] at h1 ⊢
          rw [h1]
          rfl
        rw [e]
        exact Ret1.of_blk (zs := Ln.tab (fun v => (Ln.place zs v : Int)) k) hblk (Ln.tab_len _ _) HB1.out.size hn (HB1.out.trans (hb.mono HB1.out.size))
/-- Whether a list has a number. -/
theorem sHas4_any (A : Option Addr) (n c : Nat) (zs : List Int) (B : Nat) (x : Int) (w : World) (hn : n ≤ 1048576) (h : Rd w B A n zs) :
    Calls Try.prog 92 #[.slice A n c, .int .i64 x] w (RetB (zs.contains x) w) := by
  have H := Lib.hid h; clear h
  obtain ⟨r, hr⟩ : ∃ r, r = zs.contains x := ⟨_, rfl⟩
  rw [← hr]
  have HR := Lib.hid hr; clear hr
  go_enter Try.func92, Try.ntmps92
  go_wp2
  go_loopw [5] (fun i wr => ∃ k : Nat, k ≤ n ∧ i = .int .i64 k ∧ k ≤ Ln.place zs x ∧ Below w.heap.size w wr) (fun i _ => n - (intOf i).toNat)
  case atStart => exact ⟨0, Nat.zero_le _, rfl, Nat.zero_le _, Below.refl _ _⟩
  case round =>
    obtain ⟨k, hk, rfl, hkp, hb⟩ := hrel
    by_cases hlt : k < n
    · obtain ⟨g, o, rfl, hg, hc⟩ := (H.out.below hb).at_ hlt
      have hl := H.out.len
      by_cases hx : k < Ln.place zs x
      · have hne : (zs.getD k 0 == x) = false := by rw [beq_eq_false_iff_ne]; exact fun e => Ln.place_ne hx e
        have hnd : decide (zs.getD k 0 = x) = false := decide_eq_false fun e => Ln.place_ne hx e
        obtain ⟨z, hz⟩ : ∃ z, z = zs.getD k 0 := ⟨_, rfl⟩
        rw [← hz] at hc hne hnd
        have HX := Lib.hid hx
        have HB := Lib.hid hb
        have i1 : (0 : Int) ≤ (k : Int) := by omega
        have i2 : (k : Int) < (n : Int) := by omega
        clear hz hx hkp hl hb
        go_wp2
        go_roundw
        case rel => exact ⟨k + 1, by omega, by go_num, HX.out, HB.out⟩
        case measure => simp [intOf]; omega
      · have hkk : Ln.place zs x = k := by omega
        have e : zs.getD k 0 = x := by rw [← hkk]; exact Ln.place_at (by omega)
        obtain rfl : r = true := by
          rw [HR.out, List.contains_iff_mem, ← e, List.getD_eq_getElem?_getD, List.getElem?_eq_getElem (by omega)]
          exact List.getElem_mem _
        rw [e] at hc
        have HB := Lib.hid hb
        have i1 : (0 : Int) ≤ (k : Int) := by omega
        have i2 : (k : Int) < (n : Int) := by omega
        clear e hkk hx hkp hl hb
        go_wp2
        go_ret
        exact ⟨rfl, HB.out⟩
    · obtain rfl : r = false := by
        rw [HR.out]
        cases e : zs.contains x
        · rfl
        · have := Ln.place_mem e
          have hl := H.out.len
          omega
      have HB := Lib.hid hb; clear hkp hb
      go_wp2
      go_ret
      exact ⟨rfl, HB.out⟩
set_option maxHeartbeats 400000 in
theorem sOrd4_any (A : Option Addr) (n c : Nat) (zs : List Int) (B : Nat) (w : World) (hn : n ≤ 1048576) (h : Rd w B A n zs) :
    Calls Try.prog 66 #[.slice A n c] w (RetB (Ln.ord zs) w) := by
  have k1 := sShuf_any A n c zs B w hn h
  have hl := h.len
  unfold Ln.ord
  obtain ⟨u, hu⟩ : ∃ u, u = Ln.shuf zs := ⟨_, rfl⟩
  rw [← hu] at k1 ⊢
  have C1 := Lib.hid k1
  have H := Lib.hid h
  have HL := Lib.hid hl
  clear k1 h hl hu
  cases u
  · go_enter Try.func66, Try.ntmps66
    go_wp2_with fail
    refine C1.out.mono ?_
    rintro e w1 ⟨rfl, hb⟩
    have HB := Lib.hid hb; clear hb
    go_wp2_with fail
    go_ret
    exact ⟨rfl, HB.out⟩
  · rw [Bool.true_and]
    obtain ⟨r, hr⟩ : ∃ r, r = Ln.allIn zs.length zs := ⟨_, rfl⟩
    rw [← hr]
    have HR := Lib.hid hr; clear hr
    go_enter Try.func66, Try.ntmps66
    go_wp2_with fail
    refine C1.out.mono ?_
    rintro e w1 ⟨rfl, hb⟩
    have HB1 := Lib.hid hb; clear hb
    go_wp2_with fail
    go_loopw [3] (fun i wr => ∃ k : Nat, k ≤ n ∧ i = .int .i64 k ∧ Ln.allIn k zs = true ∧ Below w.heap.size w wr) (fun i _ => n - (intOf i).toNat)
    case atStart => exact ⟨0, Nat.zero_le _, rfl, rfl, HB1.out⟩
    case round =>
      obtain ⟨k, hk, rfl, hall, hb⟩ := hrel
      have HA := Lib.hid hall; clear hall
      by_cases hlt : k < n
      · have C2 := Lib.hid (sHas4_any A n c zs B (k : Int) wr hn (H.out.below hb))
        have i1 : (0 : Int) ≤ (k : Int) := by omega
        have i2 : (k : Int) < (n : Int) := by omega
        have HB := Lib.hid hb; clear hb
        obtain ⟨ct, hct⟩ : ∃ b, b = zs.contains (k : Int) := ⟨_, rfl⟩
        rw [← hct] at C2
        cases ct
        · obtain rfl : r = false := by rw [HR.out]; exact Ln.allIn_not (k := k) (by rw [HL.out]; exact hlt) hct.symm
          clear hct
          go_wp2_with fail
          refine C2.out.mono ?_
          rintro e w2 ⟨rfl, hb2⟩
          have HB2 := Lib.hid (HB.out.trans (hb2.mono HB.out.size)); clear hb2
          go_wp2_with fail
          go_ret
          exact ⟨rfl, HB2.out⟩
        · have HA1 := Lib.hid (show Ln.allIn (k + 1) zs = true by rw [Ln.allIn_succ, HA.out, ← hct]; rfl)
          clear hct
          go_wp2_with fail
          refine C2.out.mono ?_
          rintro e w2 ⟨rfl, hb2⟩
          have HB2 := Lib.hid (HB.out.trans (hb2.mono HB.out.size)); clear hb2
          go_wp2
          go_roundw
          case rel => exact ⟨k + 1, by omega, by go_num, HA1.out, HB2.out⟩
          case measure => simp [intOf]; omega
      · have hkn : k = n := by omega
        obtain rfl : r = true := by rw [HR.out, HL.out, ← hkn]; exact HA.out
        have HB := Lib.hid hb; clear hb
        go_wp2
        go_ret
        exact ⟨rfl, HB.out⟩
set_option maxHeartbeats 400000 in
theorem sInv4_any (A : Option Addr) (n c : Nat) (zs : List Int) (B : Nat) (w : World) (hn : n ≤ 1048576) (h : Rd w B A n zs) (ho : Ln.ord zs = true) :
    Calls Try.prog 67 #[.slice A n c] w (RetL (Ln.invL zs) w) := by
  obtain ⟨i0, hi0, hz0, hz1, hz2⟩ := info_parts A_info64
  have HI := Lib.hid (fun k (hk : k < n) => Ln.idxs_at (k := k) (Ln.shuf_idxs (Ln.ord_at ho).1) (by rw [h.len]; exact hk))
  have hl := h.len
  have HE := Lib.hid (Ln.invK_all ho)
  have H := Lib.hid h
  have HL := Lib.hid hl
  clear h hl ho
  go_enter Try.func67, Try.ntmps67
  go_wp2_with (refine wpList_make_blk _ rfl _ _ _ rfl i0 Try.underlying25 hi0 hz0 hz1 hz2 _ _ _ _ n rfl rfl rfl rfl (by omega) ?_)
  go_loopw [4] (fun i wr => ∃ k : Nat, k ≤ n ∧ i = .int .i64 k ∧ Blk wr w.heap.size (clls (Ln.invK zs k)) ∧ Below w.heap.size w wr) (fun i _ => n - (intOf i).toNat)
  case atStart =>
    refine ⟨0, Nat.zero_le _, rfl, ?_, (Below.refl _ _).alloc (Nat.le_refl _) _⟩
    show Blk _ _ (clls (List.replicate zs.length 0))
    rw [HL.out, ← clls_zero]; exact Blk.new _ _
  case round =>
    obtain ⟨k, hk, rfl, hblk, hb⟩ := hrel
    by_cases hlt : k < n
    · obtain ⟨g, o, rfl, hg, hc⟩ := (H.out.below hb).at_ hlt
      obtain ⟨j0, j1⟩ := HI.out k hlt
      rw [HL.out] at j1
      obtain ⟨j, hj⟩ : ∃ j, j = zs.getD k 0 := ⟨_, rfl⟩
      rw [← hj] at hc j0 j1
      obtain ⟨y, rfl⟩ := Int.eq_ofNat_of_zero_le j0
      have hy : y < n := by omega
      obtain ⟨v0, hv0⟩ : ∃ v, wr.cell? ⟨w.heap.size, y, none⟩ = some v := ⟨_, (hblk.cell y).trans (clls_get (by rw [Ln.invK_len, HL.out]; exact hy))⟩
      have hf := hblk.frozen y
      have HN := Lib.hid (show Blk (wr.setCell ⟨w.heap.size, y, none⟩ (.int .i64 k)) w.heap.size (clls (Ln.invK zs (k + 1))) by
        have h1 := hblk.set_ y (.int .i64 k)
        rw [clls_set] at h1
        have e : (zs.getD k 0).toNat = y := by rw [← hj]; exact Int.toNat_natCast y
        show Blk _ _ (clls ((Ln.invK zs k).set (zs.getD k 0).toNat (k : Int)))
        rw [e]
        exact h1)
      have HB := Lib.hid (hb.setCell (p := ⟨w.heap.size, y, none⟩) (Nat.le_refl _) (.int .i64 k))
      have i1 : (0 : Int) ≤ (k : Int) := by omega
      have i2 : (k : Int) < (n : Int) := by omega
      clear hj hblk hb j0
      go_wp2
      go_roundw
      case rel => exact ⟨k + 1, by omega, by go_num, HN.out, HB.out⟩
      case measure => simp [intOf]; omega
    · have hkn : k = n := by omega
      have HALL := Lib.hid (And.intro hblk (And.intro hb hkn)); clear hblk hb hkn
      go_wp2
      go_ret
      obtain ⟨hblk, hb, rfl⟩ := HALL.out
      have e := HE.out
      rw [HL.out] at e
      rw [e] at hblk
      exact ⟨_, k, k, rfl, Own.of_blk hblk (by rw [Ln.invL, Ln.tab_len]; exact HL.out) (Nat.le_refl _), hn, Nat.le_refl _, hb⟩
theorem sInverseShuffle_any (A : Option Addr) (n c : Nat) (zs : List Int) (B : Nat) (w : World) (hn : n ≤ 1048576) (h : Rd w B A n zs) :
    Calls Try.prog 35 #[.slice A n c] w (Ret1 (Ln.inverse zs).1 (Ln.inverse zs).2 w) := by
  have k1 := sOrd4_any A n c zs B w hn h
  have k2 := fun (ho : Ln.ord zs = true) W (hb : Below w.heap.size w W) => sInv4_any A n c zs B W hn (h.below hb) ho
  unfold Ln.inverse
  obtain ⟨u, hu⟩ : ∃ u, u = Ln.ord zs := ⟨_, rfl⟩
  rw [← hu] at k1 k2 ⊢
  have C1 := Lib.hid k1
  have C2 := Lib.hid k2
  clear k1 k2 h hu
  cases u
  · go_enter Try.func35, Try.ntmps35
    go_wp2_with fail
    refine C1.out.mono ?_
    rintro e w1 ⟨rfl, hb⟩
    have HB := Lib.hid hb; clear hb
    go_wp2_with fail
    go_ret2
    exact Ret1.no HB.out
  · go_enter Try.func35, Try.ntmps35
    go_wp2_with fail
    refine C1.out.mono ?_
    rintro e w1 ⟨rfl, hb⟩
    have HB := Lib.hid hb; clear hb
    go_wp2_with fail
    refine (C2.out (by trivial) _ HB.out).mono ?_
    rintro e w3 ⟨A3, n3, c3, rfl, ho, hn3, hc3, hb⟩
    have HF := Lib.hid (And.intro (ho.more HB.out.size (Nat.le_refl _)) (HB.out.trans (hb.mono HB.out.size))); clear ho hb
    go_wp2_with fail
    go_ret2
    exact ⟨A3, n3, c3, rfl, HF.out.1, hn3, HF.out.2⟩
end Go.Proofs.Ytfmplneopmbfoaa.Wds
