/-
  The fewest spills: the model's function. One contract.
-/
import Derived.Test.YtfmplneopmbfoaaDoorSSpl
namespace Go.Proofs.YtfmplneopmbfoaaDoor.Wds
open Go.RowKit
set_option linter.unusedVariables false

theorem spl_len (s : Nat) (hs : s < 4096) : (Sc.memsI s).length ≤ 12 := by rw [← memK_all hs]; exact memK_len s 12
theorem bst_succ (ok : Nat → Bool) (i k : Nat) : Sp.bst ok i (List.range (k + 1)) = if ok k && Sp.less (Sc.memsI k) (Sc.memsI (Sp.bst ok i (List.range k))) then k else Sp.bst ok i (List.range k) := by
  rw [List.range_succ, Sp.bst_snoc]
set_option maxRecDepth 100000 in
set_option maxHeartbeats 4000000 in
theorem sFewestSpills_any (A : Option Addr) (n c : Nat) (ss : List Rg.R) (B : Nat) (r : Int) (w : World) (hn : n ≤ 1048576) (h : RdG w B A n ss) :
    Calls Tryd.prog 23 #[.slice A n c, .int .i64 r] w (Ret1 (Sp.fewestOf ss r).1 (Sp.fewestOf ss r).2 w) := by
  have CV := Lib.hid (sReg_any A n c ss B r w hn h)
  have hl := h.len
  obtain ⟨v, hv⟩ : ∃ z, z = (Rg.valid ss && Sp.isReg r) := ⟨_, rfl⟩
  unfold Sp.fewestOf
  rw [← hv] at CV ⊢
  have H := Lib.hid h; clear h
  cases v
  · clear hv hl
    go_enter Tryd.func23, Tryd.ntmps23
    go_wp2_with fail
    refine CV.out.mono ?_
    rintro e w1 ⟨rfl, hb⟩
    have HB := Lib.hid hb; clear hb
    go_wp2
    go_ret2
    exact Ret1.no HB.out
  · rw [if_pos rfl]
    have hvv : Rg.valid ss = true := by have := hv.symm; rw [Bool.and_eq_true] at this; exact this.1
    have hn12 : n ≤ 12 := by rw [← hl]; exact Rg.len_of_valid hvv
    have HL := Lib.hid hl
    have HF := Lib.hid (show Sp.fewest ss r = Sc.memsI (Sp.bst (Sp.okW ss r) (2 ^ n - 1) (List.range (2 ^ n))) by rw [Sp.fewest, hl])
    have HOK := Lib.hid (fun k => (show Sp.okW ss r k = decide (((Sp.wid ss k n : Nat) : Int) ≤ r) by rw [Sp.okW, hl]))
    obtain ⟨N, hN⟩ : ∃ N : Nat, N = 2 ^ n := ⟨_, rfl⟩
    have hN1 : 1 ≤ N := by rw [hN]; exact Nat.one_le_two_pow
    have hN2 : N ≤ 4096 := by rw [hN]; exact Nat.pow_le_pow_right (n := 2) (j := 12) (by decide) hn12
    have hp1 : (2 : Int) ^ n = (N : Int) := by rw [hN]; simp
    rw [← hN] at HF
    have HLT := Lib.hid (fun k (hk : k ≤ N) => (show Sp.bst (Sp.okW ss r) (N - 1) (List.range k) < 4096 from Nat.lt_of_lt_of_le (Sp.bst_lt (N := N) (by omega) fun s hs => Nat.lt_of_lt_of_le (List.mem_range.1 hs) hk) hN2))
    clear hv hl hvv hN
    go_enter Tryd.func23, Tryd.ntmps23
    go_wp2_with fail
    refine CV.out.mono ?_
    rintro e w1 ⟨rfl, hb⟩
    have HB1 := Lib.hid hb; clear hb
    have s1 : IntKind.i64.wrap ((N : Int) - 1) = ((N - 1 : Nat) : Int) := by rw [IntWalk.i64_in _ (by omega)]; omega
    have s2 : IntKind.i64.wrap (N : Int) = (N : Int) := IntWalk.i64_in _ (by omega)
    have e1 : (N : Int) - 1 = ((N - 1 : Nat) : Int) := by omega
    obtain ⟨M, hM⟩ : ∃ M, M = N - 1 := ⟨_, rfl⟩
    have HM := Lib.hid hM
    rw [← hM] at s1 e1
    clear hM
    go_wp2_with fail
    refine (sSet_any M w1 (by have := HM.out; omega)).mono ?_
    rintro e w2 ⟨A2, n2, c2, rfl, hn2, _, ho2, hb2⟩
    have HB2 := Lib.hid (HB1.out.trans (hb2.mono HB1.out.size))
    have HO2 := Lib.hid (ho2.more HB1.out.size (Nat.le_refl _)); clear hb2 ho2
    clear s1 e1
    go_wp2_with fail
    go_loopw [6, 7] (fun v i wr => ∃ (k m cc : Nat) (A' : Option Addr), k ≤ N ∧ m ≤ 12 ∧ i = .int .i64 k ∧ v = .slice A' m cc ∧ Own wr w.heap.size wr.heap.size A' m (Sc.memsI (Sp.bst (Sp.okW ss r) M (List.range k))) ∧ Below w.heap.size w wr) (fun _ i _ => N - (intOf i).toNat)
    case atStart => exact ⟨0, n2, c2, A2, Nat.zero_le _, hn2, rfl, rfl, HO2.out, HB2.out⟩
    case round =>
      rename World => wr
      obtain ⟨k, m, cc, A', hk, hm, rfl, rfl, ho, hb⟩ := hrel
      have HO := Lib.hid ho
      have HB := Lib.hid hb
      clear ho hb
      by_cases hlt : k < N
      · have i1 : (0 : Int) ≤ (k : Int) := by omega
        have i2 : (k : Int) < (N : Int) := by omega
        have HN := Lib.hid (bst_succ (Sp.okW ss r) M k)
        have HBL := HLT.out k (by omega)
        rw [← HM.out] at HBL
        have HBL2 := Lib.hid HBL; clear HBL
        go_wp2_with fail
        refine (sSet_any k wr (by omega)).mono ?_
        rintro e w3 ⟨A3, n3, c3, rfl, hn3, _, ho3, hb3⟩
        have HO3 := Lib.hid (HO.out.below hb3)
        have HS3 := Lib.hid ho3
        have HB3 := Lib.hid (HB.out.trans (hb3.mono HB.out.size))
        have hs3 := hb3.size
        clear hb3 ho3
        have CL := Lib.hid (sLess_any A3 A' n3 m c3 cc _ _ _ _ w3 (by omega) (by omega) HS3.out.rd HO3.out.rd)
        obtain ⟨q, hq⟩ : ∃ q, q = Sp.less (Sc.memsI k) (Sc.memsI (Sp.bst (Sp.okW ss r) M (List.range k))) := ⟨_, rfl⟩
        rw [← hq] at CL HN
        clear hq
        cases q
        · have HN2 := Lib.hid (show Sp.bst (Sp.okW ss r) M (List.range (k + 1)) = Sp.bst (Sp.okW ss r) M (List.range k) by rw [HN.out, Bool.and_false]; rfl)
          clear HN
          go_wp2_with fail
          refine CL.out.mono ?_
          rintro e w4 ⟨rfl, hb4⟩
          have HO4 := Lib.hid ((HO3.out.below hb4).more (Nat.le_refl _) (Nat.le_trans hs3 hb4.size))
          have HB4 := Lib.hid (HB3.out.trans (hb4.mono HB3.out.size)); clear hb4
          go_wp2
          go_roundw
          case rel => exact ⟨k + 1, m, cc, A', by omega, hm, by go_num, rfl, by rw [HN2.out]; exact HO4.out, HB4.out⟩
          case measure => simp [intOf]; omega
        · rw [Bool.and_true, HOK.out k] at HN
          have CW := Lib.hid (fun (W : World) (hW : RdG W B A n ss) => sWid_any A n c k ss B W hn12 (by omega) hW)
          have hwl := Sp.wid_le ss k n
          rw [HL.out] at hwl
          generalize Sp.wid ss k n = wd at CW HN hwl
          by_cases hr : (wd : Int) ≤ r
          · have d1 : decide ((wd : Int) ≤ r) = true := decide_eq_true hr
            rw [d1] at HN
            have HN2 := Lib.hid (show Sp.bst (Sp.okW ss r) M (List.range (k + 1)) = k from HN.out)
            clear HN
            go_wp2_with fail
            refine CL.out.mono ?_
            rintro e w4 ⟨rfl, hb4⟩
            have hs4 := hb4.size
            have HS4 := Lib.hid (HS3.out.below hb4)
            have HB4 := Lib.hid (HB3.out.trans (hb4.mono HB3.out.size)); clear hb4
            go_wp2_with fail
            refine (CW.out w4 (H.out.below HB4.out)).mono ?_
            rintro e w5 ⟨rfl, hb5⟩
            have hs5 := hb5.size
            have HS5 := Lib.hid (((HS4.out.below hb5).more (show w.heap.size ≤ wr.heap.size from HB.out.size) (show w3.heap.size ≤ w5.heap.size by omega)))
            have HB5 := Lib.hid (HB4.out.trans (hb5.mono HB4.out.size)); clear hb5
            go_wp2
            go_roundw
            case rel => exact ⟨k + 1, n3, c3, A3, by omega, hn3, by go_num, rfl, by rw [HN2.out]; exact HS5.out, HB5.out⟩
            case measure => simp [intOf]; omega
          · have d1 : decide ((wd : Int) ≤ r) = false := decide_eq_false hr
            rw [d1] at HN
            have HN2 := Lib.hid (show Sp.bst (Sp.okW ss r) M (List.range (k + 1)) = Sp.bst (Sp.okW ss r) M (List.range k) from HN.out)
            clear HN
            go_wp2_with fail
            refine CL.out.mono ?_
            rintro e w4 ⟨rfl, hb4⟩
            have hs4 := hb4.size
            have HO4 := Lib.hid (HO3.out.below hb4)
            have HB4 := Lib.hid (HB3.out.trans (hb4.mono HB3.out.size)); clear hb4
            go_wp2_with fail
            refine (CW.out w4 (H.out.below HB4.out)).mono ?_
            rintro e w5 ⟨rfl, hb5⟩
            have hs5 := hb5.size
            have HO5 := Lib.hid ((HO4.out.below hb5).more (Nat.le_refl _) (show wr.heap.size ≤ w5.heap.size by omega))
            have HB5 := Lib.hid (HB4.out.trans (hb5.mono HB4.out.size)); clear hb5
            go_wp2
            go_roundw
            case rel => exact ⟨k + 1, m, cc, A', by omega, hm, by go_num, rfl, by rw [HN2.out]; exact HO5.out, HB5.out⟩
            case measure => simp [intOf]; omega
      · have hkn : k = N := by omega
        subst hkn
        go_wp2
        go_ret2
        rw [HF.out, ← HM.out]
        exact ⟨A', m, cc, rfl, HO.out, by omega, HB.out⟩
end Go.Proofs.YtfmplneopmbfoaaDoor.Wds
