/-
  The pressure of an order of tasks: the code's functions and the model's, one contract each.
-/
import Derived.Test.YtfmplneopmbfoaaTOrd
import Derived.Test.YtfmplneopmbfoaaCnt32
import Derived.Test.YtfmplneopmbfoaaMaxM
namespace Go.Proofs.Ytfmplneopmbfoaa.Wds
open Go.RowKit
set_option linter.unusedVariables false

set_option maxHeartbeats 1000000 in
theorem liveBehind_any (g n : Nat) (us : List Nat) (s : Nat) (w : World) (hl : us.length = n) (hn : n ≤ 16) (hu : ∀ i, i < n → us.getD i 0 < 4294967296) (hs : s < 4294967296) (hb : BlkU w g (cllU us)) :
    Calls Try.prog 61 #[.slice (some ⟨g, 0, none⟩) n n, .int .u32 (s : Int)] w fun e w' => e = .returned (.int .i64 ((Tk.liveU us s : Nat) : Int)) ∧ Below w.heap.size w w' := by
  have HU := Lib.hid hb
  have HUL := Lib.hid hu
  have HL := Lib.hid hl
  clear hb hu hl
  go_enter Try.func61, Try.ntmps61
  go_wp2
  go_loopw [5, 10] (fun sv i wr => ∃ k : Nat, k ≤ n ∧ i = .int .i64 k ∧ sv = .int .u32 ((Tk.neededU us s k : Nat) : Int) ∧ Below w.heap.size w wr) (fun _ i _ => n - (intOf i).toNat)
  case atStart => exact ⟨0, Nat.zero_le _, rfl, rfl, Below.refl _ _⟩
  case round =>
    obtain ⟨k, hk, rfl, rfl, hb⟩ := hrel
    have hd := Tk.neededU_lt (us := us) (n := k) (fun j hj => HUL.out j (by omega)) s
    by_cases hlt : k < n
    · have n0 : wr.cell? ⟨g, k, none⟩ = some (.int .u32 ((us.getD k 0 : Nat) : Int)) := by rw [(HU.out.keep hb).cell, cllU_get (by rw [HL.out]; exact hlt)]
      have hx := HUL.out k hlt
      have HS := Lib.hid (show Tk.neededU us s (k + 1) = if s.testBit k then Tk.neededU us s k else Tk.neededU us s k ||| us.getD k 0 by rw [Tk.neededU])
      have C1 := Lib.hid (fun W => hasN_any s k W hs (by omega))
      obtain ⟨x, hxx⟩ : ∃ x, x = us.getD k 0 := ⟨_, rfl⟩
      rw [← hxx] at n0 hx HS
      generalize Tk.neededU us s k = d at hd HS ⊢
      generalize s.testBit k = t at C1 HS
      have HB := Lib.hid hb; clear hb hxx
      have i1 : (0 : Int) ≤ (k : Int) := by omega
      have i2 : (k : Int) < (n : Int) := by omega
      cases t
      · obtain ⟨m, hm⟩ : ∃ m, m = d ||| x := ⟨_, rfl⟩
        have b1 : bits .or .u32 (d : Int) (x : Int) = (m : Int) := by rw [hm]; exact u32_or d x hd hx
        have HS2 := Lib.hid (show Tk.neededU us s (k + 1) = m by rw [HS.out, hm]; rfl)
        clear hm
        go_wp2_with fail
        refine (C1.out _).mono ?_
        rintro e w1 ⟨rfl, rfl⟩
        go_wp2
        go_roundw
        case rel => exact ⟨k + 1, by omega, by go_num, by rw [HS2.out], HB.out⟩
        case measure => simp [intOf]; omega
      · have HS2 := Lib.hid (show Tk.neededU us s (k + 1) = d by rw [HS.out]; rfl)
        go_wp2_with fail
        refine (C1.out _).mono ?_
        rintro e w1 ⟨rfl, rfl⟩
        go_wp2
        go_roundw
        case rel => exact ⟨k + 1, by omega, by go_num, by rw [HS2.out], HB.out⟩
        case measure => simp [intOf]; omega
    · have hkn : k = n := by omega
      subst hkn
      have HF := Lib.hid (show Tk.liveU us s = Rg.pop (Tk.neededU us s k &&& s) by rw [Tk.liveU, HL.out])
      generalize Tk.neededU us s k = d at hd HF ⊢
      obtain ⟨m, hm⟩ : ∃ m, m = d &&& s := ⟨_, rfl⟩
      have b1 : bits .and .u32 (d : Int) (s : Int) = (m : Int) := by rw [hm]; exact u32_and d s hd hs
      have hml : m < 4294967296 := by rw [hm]; exact Sc.and_lt hd
      rw [← hm] at HF
      have CC := Lib.hid (fun W => count_any m W hml)
      have hp := pop_lt m
      rw [← HF.out] at CC hp
      have HB := Lib.hid hb; clear hb hm
      go_wp2_with fail
      refine (CC.out _).mono ?_
      rintro e w1 ⟨rfl, hb1⟩
      have HB1 := Lib.hid (HB.out.trans (hb1.mono HB.out.size)); clear hb1
      go_wp2
      go_ret
      exact ⟨rfl, HB1.out⟩
set_option maxHeartbeats 1000000 in
theorem iPressureOf_any (A : Option Addr) (n c : Nat) (ts : List Tk.T) (B : Nat) (A' : Option Addr) (n' c' : Nat) (zs : List Int) (B' : Nat) (w : World) (hn : Ln.totL (Tk.nss ts) ≤ 1048576) (hc : n ≤ c) (hn' : n' ≤ 1048576) (hc' : n' ≤ c') (h : RdT w B A n ts) (h' : Rd w B' A' n' zs) :
    Calls Try.prog 25 #[.slice A n c, .slice A' n' c'] w (RetIB (Tk.pressureOf ts zs).1 (Tk.pressureOf ts zs).2 w) := by
  have CN := Lib.hid (needsOf_any A n c ts B w hn h)
  have hl := h.len
  have hl' := h'.len
  have H' := Lib.hid h'
  clear h h'
  have HL := Lib.hid hl
  have HL' := Lib.hid hl'
  clear hl hl'
  obtain ⟨q, hq⟩ : ∃ q, q = Tk.ordU (Tk.needs ts) zs := ⟨_, rfl⟩
  obtain ⟨pr, hpr⟩ : ∃ q, q = Tk.pressureOf ts zs := ⟨_, rfl⟩
  rw [← hpr]
  have HP := Lib.hid hpr
  have HQ := Lib.hid hq
  clear hq hpr
  go_enter Try.func25, Try.ntmps25
  go_wp2_with fail
  refine CN.out.mono ?_
  rintro e w1 (⟨hv, g, rfl, hg, hbu, hb⟩ | ⟨hv, rfl, hb⟩)
  · have h8 : n ≤ 8 := by rw [← HL.out]; exact Tk.len_of_valid hv
    have hlu : (Tk.needs ts).length = n := by rw [Tk.needs_len, HL.out]
    have CO := Lib.hid (isOrderU_any g n (Tk.needs ts) A' n' c' zs B' w1 hlu (by omega) (needs_lt hv HL.out) hn' hbu (H'.out.below hb))
    rw [← HQ.out] at CO
    have HB := Lib.hid hb
    have HV := Lib.hid hv
    have HU1 := Lib.hid hbu
    have HLU := Lib.hid hlu
    clear hb hv hbu hg hlu
    cases q
    · have HP2 := Lib.hid (show pr = (0, false) by rw [HP.out, Tk.pressureOf, Tk.isOrder, HV.out, ← HQ.out]; rfl)
      go_wp2_with fail
      refine CO.out.mono ?_
      rintro e w2 ⟨rfl, hb2⟩
      have HB2 := Lib.hid (HB.out.trans (hb2.mono HB.out.size)); clear hb2
      go_wp2
      go_ret2
      rw [HP2.out]
      exact ⟨rfl, HB2.out⟩
    · have HP2 := Lib.hid (show pr = (((Tk.presU (Tk.needs ts) zs n' : Nat) : Int), true) by rw [HP.out, Tk.pressureOf, Tk.isOrder, HV.out, ← HQ.out, HL'.out]; rfl)
      go_wp2_with fail
      refine CO.out.mono ?_
      rintro e w2 ⟨rfl, hb2⟩
      have HU2 := Lib.hid (HU1.out.keep hb2)
      have H2 := Lib.hid (H'.out.below (HB.out.trans (hb2.mono HB.out.size)))
      have HB2 := Lib.hid (HB.out.trans (hb2.mono HB.out.size)); clear hb2
      go_wp2_with fail
      go_loopw [8, 9, 27] (fun pv sv i wr => ∃ k : Nat, k ≤ n' ∧ i = .int .i64 k ∧ pv = .int .i64 ((Tk.presU (Tk.needs ts) zs k : Nat) : Int) ∧ sv = .int .u32 ((Sc.doneOf (zs.take k) : Nat) : Int) ∧ Below w2.heap.size w2 wr) (fun _ _ i _ => n' - (intOf i).toNat)
      case atStart => exact ⟨0, Nat.zero_le _, rfl, rfl, rfl, Below.refl _ _⟩
      case round =>
        rename World => wr
        obtain ⟨k, hk, rfl, rfl, rfl, hb⟩ := hrel
        have hpl := Tk.presU_le (Tk.needs ts) zs k
        by_cases hlt : k < n'
        · obtain ⟨g', o', rfl, hg', hc1⟩ := (H2.out.below hb).at_ hlt
          have hall : ∀ i, i < n' → 0 ≤ zs.getD i 0 ∧ zs.getD i 0 < (n : Int) := fun i hi => by
            have := Tk.okU_range (Tk.ordU_at HQ.out.symm (k := i) (by rw [HL'.out]; exact hi))
            rw [HLU.out] at this
            exact this
          have hpre : ∀ x ∈ zs.take k, x ≤ 31 := fun x hx => by
            obtain ⟨i, hi, _, rfl⟩ := Tk.mem_take hx
            have := hall i (by omega)
            omega
          have hd := Sc.doneOf_lt (l := zs.take k) hpre
          have hz := hall k hlt
          have HSN := Lib.hid (show Sc.doneOf (zs.take (k + 1)) = Sc.doneOf (zs.take k) ||| Sc.bt (zs.getD k 0) by rw [Tk.take_snoc (by rw [HL'.out]; exact hlt), Sc.doneOf_snoc])
          have HPN := Lib.hid (show Tk.presU (Tk.needs ts) zs (k + 1) = max (Tk.presU (Tk.needs ts) zs k) (Tk.liveU (Tk.needs ts) (Sc.doneOf (zs.take (k + 1)))) by rw [Tk.presU])
          obtain ⟨z, hzz⟩ : ∃ z, z = zs.getD k 0 := ⟨_, rfl⟩
          rw [← hzz] at hc1 hz HSN
          rw [HSN.out] at HPN
          generalize Sc.doneOf (zs.take k) = s at hd HSN HPN ⊢
          generalize Tk.presU (Tk.needs ts) zs k = pv at hpl HPN ⊢
          have hs2 : s ||| Sc.bt z < 4294967296 := Sc.or_lt hd (Sc.bt_lt (by omega))
          have CW := Lib.hid (fun W => with_any s z W hd hz.1 (by omega))
          obtain ⟨s2, hs2e⟩ : ∃ x, x = s ||| Sc.bt z := ⟨_, rfl⟩
          rw [← hs2e] at CW HSN HPN hs2
          have CL := Lib.hid (fun W (hW : BlkU W g (cllU (Tk.needs ts))) => liveBehind_any g n (Tk.needs ts) s2 W HLU.out (by omega) (needs_lt HV.out HL.out) hs2 hW)
          have hlv : Tk.liveU (Tk.needs ts) s2 ≤ 32 := Rg.cnt_le _ _
          generalize Tk.liveU (Tk.needs ts) s2 = lv at CL HPN hlv
          have HU3 := Lib.hid (HU2.out.keep hb)
          have HB3 := Lib.hid hb
          clear hb hzz hs2e hall hpre hd hz
          have i1 : (0 : Int) ≤ (k : Int) := by omega
          have i2 : (k : Int) < (n' : Int) := by omega
          go_wp2_with fail
          refine (CW.out _).mono ?_
          rintro e w3 ⟨rfl, rfl⟩
          go_wp2_with fail
          refine (CL.out _ HU3.out).mono ?_
          rintro e w4 ⟨rfl, hb4⟩
          have HB4 := Lib.hid (HB3.out.trans (hb4.mono HB3.out.size)); clear hb4
          go_wp2
          go_roundw
          case rel => exact ⟨k + 1, by omega, by go_num, by rw [HPN.out]; congr 1; omega, by rw [HSN.out], HB4.out⟩
          case measure => simp [intOf]; omega
        · have hkn : k = n' := by omega
          subst hkn
          have HB3 := Lib.hid (HB2.out.trans (hb.mono HB2.out.size)); clear hb
          go_wp2
          go_ret2
          rw [HP2.out]
          exact ⟨rfl, HB3.out⟩
  · have HB := Lib.hid hb
    have HV := Lib.hid hv
    have HP2 := Lib.hid (show pr = (0, false) by rw [HP.out, Tk.pressureOf, Tk.isOrder, HV.out]; rfl)
    clear hb hv
    go_wp2
    go_ret2
    rw [HP2.out]
    exact ⟨rfl, HB.out⟩
end Go.Proofs.Ytfmplneopmbfoaa.Wds
