/-
  Groups: the code's test of a group; IsGroup of the code and of the model. One contract each.
-/
import Derived.Test.YtgkpjeheoinpiaaGp4
import Derived.Test.YtgkpjeheoinpiaaGp2
import Derived.Test.YtgkpjeheoinpiaaShuf
namespace Go.Proofs.Ytgkpjeheoinpiaa.Wds
open Go.RowKit
set_option linter.unusedVariables false

/-- The packer of what is not as required: none. -/
theorem packerOf_no (l b : Int) (A : Option Addr) (n c : Nat) (ss : List Sc.St) (B : Nat) (w : World) (hn : n ≤ 1048576) (h : RdS w B A n ss) (hv : (Mc.mok l b && decide (l ≤ 4) && Sc.valid ss) = false) :
    Calls Try.prog 15 #[.agg #[.int .i64 l, .int .i64 b], .slice A n c] w
      fun e w' => e = .returned (.tuple #[.agg #[.int .i64 0, .int .i64 0, .slice none 0 0, .slice none 0 0, .slice none 0 0], .bool false]) ∧ Below w.heap.size w w' := by
  have C1 := Lib.hid (fun W => iValidM_any l b W)
  have C2 := Lib.hid (fun (W : World) (hb : Below w.heap.size w W) => iValidCode_any A n c ss B W hn (h.below hb))
  have H4 := Lib.hid (show l ≤ 4 ∨ 4 < l by omega)
  generalize Mc.mok l b = v1 at C1 hv
  generalize Sc.valid ss = v2 at C2 hv
  have HV := Lib.hid hv; clear hv h
  go_enter Try.func15, Try.ntmps15
  go_wp2_with fail
  refine (C1.out _).mono ?_
  rintro e w1 ⟨rfl, hb⟩
  have X1 := Lib.hid (((Bx.new w 28 #[.int .i64 l, .int .i64 b]).alloc (.cells #[.int .i64 0, .int .i64 0, .slice none 0 0, .slice none 0 0, .slice none 0 0] 46)).keep hb)
  have X2 := Lib.hid ((Bx.new (w.alloc (.cells #[.int .i64 l, .int .i64 b] 28)) 46 #[.int .i64 0, .int .i64 0, .slice none 0 0, .slice none 0 0, .slice none 0 0]).keep hb)
  rw [show (w.alloc (.cells #[.int .i64 l, .int .i64 b] 28)).heap.size = w.heap.size + 1 by simp] at X2
  have hb0 : Below w.heap.size w ((w.alloc (.cells #[.int .i64 l, .int .i64 b] 28)).alloc (.cells #[.int .i64 0, .int .i64 0, .slice none 0 0, .slice none 0 0, .slice none 0 0] 46)) := ((Below.refl _ _).alloc (Nat.le_refl _) _).alloc (by simp) _
  have HB1 := Lib.hid (hb0.trans (hb.mono hb0.size)); clear hb hb0
  have x0 : w1.cell? ⟨w.heap.size, 0, none⟩ = some (.int .i64 l) := X1.out.cell 0
  have FIN : ∀ w2, Bx w2 (w.heap.size + 1) 46 #[.int .i64 0, .int .i64 0, .slice none 0 0, .slice none 0 0, .slice none 0 0] → Below w.heap.size w w2 →
      Hid (Bx (((((w2.setCell ⟨w.heap.size + 1, 0, none⟩ (.int .i64 0)).setCell ⟨w.heap.size + 1, 1, none⟩ (.int .i64 0)).setCell ⟨w.heap.size + 1, 2, none⟩ (.slice none 0 0)).setCell ⟨w.heap.size + 1, 3, none⟩ (.slice none 0 0)).setCell ⟨w.heap.size + 1, 4, none⟩ (.slice none 0 0)) (w.heap.size + 1) 46 #[.int .i64 0, .int .i64 0, .slice none 0 0, .slice none 0 0, .slice none 0 0] ∧
        Below w.heap.size w (((((w2.setCell ⟨w.heap.size + 1, 0, none⟩ (.int .i64 0)).setCell ⟨w.heap.size + 1, 1, none⟩ (.int .i64 0)).setCell ⟨w.heap.size + 1, 2, none⟩ (.slice none 0 0)).setCell ⟨w.heap.size + 1, 3, none⟩ (.slice none 0 0)).setCell ⟨w.heap.size + 1, 4, none⟩ (.slice none 0 0))) :=
    fun w2 h1 h2 => Lib.hid ⟨h1.set5 _ _ _ _ _, set5_below h2 (by omega) _ _ _ _ _⟩
  have HFIN := Lib.hid FIN; clear FIN
  cases v1
  · have HF := HFIN.out w1 X2.out HB1.out
    obtain ⟨q0, q1, q2, q3, q4, f0, f1, f2, f3, f4⟩ := X2.out.cells5
    go_wp2
    obtain ⟨kz, kb⟩ := HF.out
    clear q0 q1 q2 q3 q4 f0 f1 f2 f3 f4 HF
    obtain ⟨wf, hwf⟩ : ∃ wf, wf = (((((w1.setCell ⟨w.heap.size + 1, 0, none⟩ (.int .i64 0)).setCell ⟨w.heap.size + 1, 1, none⟩ (.int .i64 0)).setCell ⟨w.heap.size + 1, 2, none⟩ (.slice none 0 0)).setCell ⟨w.heap.size + 1, 3, none⟩ (.slice none 0 0)).setCell ⟨w.heap.size + 1, 4, none⟩ (.slice none 0 0)) := ⟨_, rfl⟩
    rw [← hwf] at kz kb ⊢
    clear hwf
    obtain ⟨z0, z1, z2, z3, z4, _⟩ := kz.cells5
    refine bodyPost_ret (v := .tuple #[.agg #[.int .i64 0, .int .i64 0, .slice none 0 0, .slice none 0 0, .slice none 0 0], .bool false]) ?_ rfl ⟨rfl, kb⟩
    simp [results, Try.results15, go_sem, z0, z1, z2, z3, z4]
  · rcases H4.out with h4 | h4
    · have e4 : ¬ (4 : Int) < l := by omega
      obtain rfl : v2 = false := by have := HV.out; rw [decide_eq_true h4] at this; simpa using this
      clear h4
      go_wp2_with fail
      refine (C2.out _ HB1.out).mono ?_
      rintro e w2 ⟨rfl, hb⟩
      have HF := HFIN.out w2 (X2.out.keep hb) (HB1.out.trans (hb.mono HB1.out.size))
      obtain ⟨q0, q1, q2, q3, q4, f0, f1, f2, f3, f4⟩ := (X2.out.keep hb).cells5
      clear hb
      go_wp2
      obtain ⟨kz, kb⟩ := HF.out
      clear q0 q1 q2 q3 q4 f0 f1 f2 f3 f4 HF
      obtain ⟨wf, hwf⟩ : ∃ wf, wf = (((((w2.setCell ⟨w.heap.size + 1, 0, none⟩ (.int .i64 0)).setCell ⟨w.heap.size + 1, 1, none⟩ (.int .i64 0)).setCell ⟨w.heap.size + 1, 2, none⟩ (.slice none 0 0)).setCell ⟨w.heap.size + 1, 3, none⟩ (.slice none 0 0)).setCell ⟨w.heap.size + 1, 4, none⟩ (.slice none 0 0)) := ⟨_, rfl⟩
      rw [← hwf] at kz kb ⊢
      clear hwf
      obtain ⟨z0, z1, z2, z3, z4, _⟩ := kz.cells5
      refine bodyPost_ret (v := .tuple #[.agg #[.int .i64 0, .int .i64 0, .slice none 0 0, .slice none 0 0, .slice none 0 0], .bool false]) ?_ rfl ⟨rfl, kb⟩
      simp [results, Try.results15, go_sem, z0, z1, z2, z3, z4]
    · have HF := HFIN.out w1 X2.out HB1.out
      obtain ⟨q0, q1, q2, q3, q4, f0, f1, f2, f3, f4⟩ := X2.out.cells5
      go_wp2
      obtain ⟨kz, kb⟩ := HF.out
      clear q0 q1 q2 q3 q4 f0 f1 f2 f3 f4 HF
      obtain ⟨wf, hwf⟩ : ∃ wf, wf = (((((w1.setCell ⟨w.heap.size + 1, 0, none⟩ (.int .i64 0)).setCell ⟨w.heap.size + 1, 1, none⟩ (.int .i64 0)).setCell ⟨w.heap.size + 1, 2, none⟩ (.slice none 0 0)).setCell ⟨w.heap.size + 1, 3, none⟩ (.slice none 0 0)).setCell ⟨w.heap.size + 1, 4, none⟩ (.slice none 0 0)) := ⟨_, rfl⟩
      rw [← hwf] at kz kb ⊢
      clear hwf
      obtain ⟨z0, z1, z2, z3, z4, _⟩ := kz.cells5
      refine bodyPost_ret (v := .tuple #[.agg #[.int .i64 0, .int .i64 0, .slice none 0 0, .slice none 0 0, .slice none 0 0], .bool false]) ?_ rfl ⟨rfl, kb⟩
      simp [results, Try.results15, go_sem, z0, z1, z2, z3, z4]
set_option maxRecDepth 100000 in
set_option maxHeartbeats 2000000 in
theorem iGroup_any (l b : Int) (A : Option Addr) (n c : Nat) (ss : List Sc.St) (gn gm : Nat) (A' : Option Addr) (m c' : Nat) (zs : List Int) (B' : Nat) (w : World) (hm : m ≤ 1048576) (hn16 : n ≤ 16) (hlen : ss.length = n)
    (hmt : BlkU w gm (cllU ((List.range n).map (Gp.mate l ss n)))) (h' : Rd w B' A' m zs) :
    Calls Try.prog 16 #[.agg #[.int .i64 l, .int .i64 b, .slice A n c, .slice (some ⟨gn, 0, none⟩) n n, .slice (some ⟨gm, 0, none⟩) n n], .slice A' m c'] w (RetB (Gp.grpI l ss zs) w) := by
  have hlen' := h'.len
  obtain ⟨r, hr⟩ : ∃ r, r = Gp.grpI l ss zs := ⟨_, rfl⟩
  rw [← hr]
  have X0 := Lib.hid (Bx.new w 46 #[.int .i64 l, .int .i64 b, .slice A n c, .slice (some ⟨gn, 0, none⟩) n n, .slice (some ⟨gm, 0, none⟩) n n])
  have hb0 : Below w.heap.size w (w.alloc (.cells #[.int .i64 l, .int .i64 b, .slice A n c, .slice (some ⟨gn, 0, none⟩) n n, .slice (some ⟨gm, 0, none⟩) n n] 46)) := (Below.refl _ _).alloc (Nat.le_refl _) _
  have HB0 := Lib.hid hb0
  have C1 := Lib.hid (areI_any n A' m c' zs B' (w.alloc (.cells #[.int .i64 l, .int .i64 b, .slice A n c, .slice (some ⟨gn, 0, none⟩) n n, .slice (some ⟨gm, 0, none⟩) n n] 46)) (by omega) hm (h'.below hb0))
  have C2 := Lib.hid (fun W => ones_any n W (by omega))
  have HM := Lib.hid hmt
  have H' := Lib.hid h'
  clear hb0 hmt h'
  by_cases hml : (m : Int) = l
  · have hrr : r = (Ln.idxs n zs && (List.range m).all fun k => (Gp.fitting l ss zs k).testBit (zs.getD k 0).toNat) := by
      rw [hr]; unfold Gp.grpI; rw [hlen', hlen, decide_eq_true hml]; rfl
    obtain ⟨ok, hok⟩ : ∃ k, k = Ln.idxs n zs := ⟨_, rfl⟩
    rw [← hok] at hrr C1
    have HR := Lib.hid hrr
    have HOK := Lib.hid hok
    have HLEN := Lib.hid (And.intro hlen hlen')
    clear hrr hok hr hlen hlen'
    subst hml
    cases ok
    · obtain rfl : r = false := by rw [HR.out]; rfl
      go_enter Try.func16, Try.ntmps16
      go_wp2_with fail
      refine C1.out.mono ?_
      rintro e w1 ⟨rfl, hb⟩
      have HB1 := Lib.hid (HB0.out.trans (hb.mono HB0.out.size)); clear hb
      go_wp2
      go_ret
      exact ⟨rfl, HB1.out⟩
    · go_enter Try.func16, Try.ntmps16
      go_wp2_with fail
      refine C1.out.mono ?_
      rintro e w1 ⟨rfl, hb⟩
      have X1 := Lib.hid (X0.out.keep hb)
      have HB1 := Lib.hid (HB0.out.trans (hb.mono HB0.out.size)); clear hb
      have x2 : w1.cell? ⟨w.heap.size, 2, none⟩ = some (.slice A n c) := X1.out.cell 2
      go_wp2_with fail
      refine (C2.out _).mono ?_
      rintro e w2 ⟨rfl, rfl⟩
      go_wp2
      have HF0 := Lib.hid (show (2 ^ n - 1 : Nat) = Gp.fitting (m : Int) ss zs 0 by rw [Gp.fitting, HLEN.out.1])
      rw [HF0.out]
      go_loopw [5, 28] (fun f i wr => ∃ k : Nat, k ≤ m ∧ i = .int .i64 k ∧ f = .int .u32 ((Gp.fitting m ss zs k : Nat) : Int) ∧ Hid (∀ j, j < k → (Gp.fitting m ss zs j).testBit (zs.getD j 0).toNat = true) ∧ wr = w1) (fun _ i _ => m - (intOf i).toNat)
      case atStart => exact ⟨0, Nat.zero_le _, rfl, rfl, Lib.hid (fun j hj => absurd hj (Nat.not_lt_zero _)), rfl⟩
      case round =>
        obtain ⟨k, hk, rfl, rfl, HP, rfl⟩ := hrel
        by_cases hlt : k < m
        · obtain ⟨g, o, rfl, _, hc⟩ := (H'.out.below HB1.out).at_ hlt
          have hid := Ln.idxs_at HOK.out.symm (k := k) (by rw [HLEN.out.2]; exact hlt)
          obtain ⟨z, hz⟩ : ∃ z, z = zs.getD k 0 := ⟨_, rfl⟩
          rw [← hz] at hc hid
          obtain ⟨q, rfl⟩ := Int.eq_ofNat_of_zero_le hid.1
          have hflt := Gp.fitting_lt (l := (m : Int)) (c := ss) zs k (by have := HLEN.out.1; omega)
          have HN := Lib.hid (show Gp.fitting m ss zs (k + 1) = Gp.fitting m ss zs k &&& Gp.mate m ss n q by rw [Gp.fitting, ← hz, HLEN.out.1]; rfl)
          obtain ⟨f, hf⟩ : ∃ f, f = Gp.fitting m ss zs k := ⟨_, rfl⟩
          rw [← hf] at HN hflt ⊢
          obtain ⟨t, ht⟩ : ∃ t, t = f.testBit q := ⟨_, rfl⟩
          have CH := Lib.hid (fun W => hasN_any f q W hflt (by omega))
          rw [← ht] at CH
          have HT := Lib.hid (show (Gp.fitting m ss zs k).testBit (zs.getD k 0).toNat = t by rw [ht, hf, ← hz]; rfl)
          have i1 : (0 : Int) ≤ (k : Int) := by omega
          have i2 : (k : Int) < (m : Int) := by omega
          have i3 : (0 : Int) ≤ (q : Int) := by omega
          have i4 : (q : Int) < (n : Int) := by omega
          have hmq : (List.map (Gp.mate m ss n) (List.range n)).getD q 0 = Gp.mate m ss n q := by
            rw [List.getD_eq_getElem?_getD, List.getElem?_map, List.getElem?_range (by omega)]; rfl
          have hmlt : Gp.mate m ss n q < 4294967296 := Sc.setOf_lt32 _ (by omega)
          obtain ⟨mv, hmv⟩ : ∃ v, v = Gp.mate m ss n q := ⟨_, rfl⟩
          rw [← hmv] at hmq hmlt HN
          have y0 : wr.cell? ⟨gm, q, none⟩ = some (.int .u32 (mv : Int)) := by
            rw [(HM.out.below HB1.out HM.out.lt).cell, cllU_get (by simp; omega), hmq]
          have y1 : wr.cell? ⟨w.heap.size, 4, none⟩ = some (.slice (some ⟨gm, 0, none⟩) n n) := X1.out.cell 4
          have ha : bits .and .u32 (f : Int) (mv : Int) = ((f &&& mv : Nat) : Int) := u32_and f mv hflt hmlt
          clear hz hf ht hid hmq hmv
          cases t
          · obtain rfl : r = false := by
              rw [HR.out]
              have : ((List.range m).all fun k => (Gp.fitting m ss zs k).testBit (zs.getD k 0).toNat) = false := by
                rw [List.all_eq_false]; exact ⟨k, List.mem_range.2 hlt, by rw [HT.out]; simp⟩
              rw [this]; rfl
            go_wp2_with fail
            refine (CH.out _).mono ?_
            rintro e w3 ⟨rfl, rfl⟩
            go_wp2
            go_ret
            exact ⟨rfl, HB1.out⟩
          · go_wp2_with fail
            refine (CH.out _).mono ?_
            rintro e w3 ⟨rfl, rfl⟩
            go_wp2
            go_roundw
            case rel =>
              refine ⟨k + 1, by omega, by go_num, by rw [HN.out], Lib.hid (fun j hj => ?_), trivial⟩
              rcases Nat.lt_or_ge j k with h | h
              · exact HP.out j h
              · obtain rfl : j = k := by omega
                exact HT.out
            case measure => simp [intOf]; omega
        · have hkm : k = m := by omega
          subst hkm
          have hrt : r = true := by
            rw [HR.out]
            have : ((List.range k).all fun j => (Gp.fitting k ss zs j).testBit (zs.getD j 0).toNat) = true := by
              rw [List.all_eq_true]; intro j hj; exact HP.out j (List.mem_range.1 hj)
            rw [this]; rfl
          subst hrt
          go_wp2
          go_ret
          exact ⟨rfl, HB1.out⟩
  · have hrf : r = false := by rw [hr]; unfold Gp.grpI; rw [hlen', decide_eq_false hml]; simp
    subst hrf
    have e1 : ((m : Int) == l) = false := beq_eq_false_iff_ne.2 hml
    have e2 : decide ((m : Int) = l) = false := decide_eq_false hml
    have e3 : ((m : Int) != l) = true := by simp [hml]
    clear hr
    go_enter Try.func16, Try.ntmps16
    go_wp2
    go_ret
    exact ⟨rfl, HB0.out⟩
/-- Whether statements are a group of valid code for a valid machine of at most four lanes. -/
def isG (l b : Int) (ss : List Sc.St) (zs : List Int) : Bool := (Mc.mok l b && decide (l ≤ 4) && Sc.valid ss) && Gp.grp l ss zs
theorem two_four {l b : Int} {ss : List Sc.St} (h : (Mc.mok l b && decide (l ≤ 4) && Sc.valid ss) = true) : (l = 2 ∨ l = 4) ∧ Mc.mok l b = true ∧ Sc.valid ss = true := by
  simp only [Bool.and_eq_true, decide_eq_true_eq] at h
  have := Mc.mok_lanes h.1.1
  exact ⟨by omega, h.1.1, h.2⟩
set_option maxHeartbeats 1000000 in
theorem sIsGroup_any (l b : Int) (A : Option Addr) (n c : Nat) (ss : List Sc.St) (A' : Option Addr) (m c' : Nat) (zs : List Int) (B B' : Nat) (w : World) (hn : n ≤ 1048576) (hm : m ≤ 1048576) (hmc : m ≤ c') (h : RdS w B A n ss) (h' : Rd w B' A' m zs) :
    Calls Try.prog 5 #[.agg #[.int .i64 l, .int .i64 b], .slice A n c, .slice A' m c'] w (RetB (isG l b ss zs) w) := by
  have hb0 : Below w.heap.size w (w.alloc (.cells #[.int .i64 l, .int .i64 b] 28)) := (Below.refl _ _).alloc (Nat.le_refl _) _
  have C1 := Lib.hid (sBoth_any l b w.heap.size A n c ss B (w.alloc (.cells #[.int .i64 l, .int .i64 b] 28)) hn (h.below hb0) (new2 _ _ _ _).1 (new2 _ _ _ _).2)
  have HB0 := Lib.hid hb0
  have H := Lib.hid h
  have H' := Lib.hid h'
  unfold isG
  obtain ⟨v, hv⟩ : ∃ v, v = (Mc.mok l b && decide (l ≤ 4) && Sc.valid ss) := ⟨_, rfl⟩
  rw [← hv] at C1 ⊢
  clear h h' hb0
  cases v
  · clear hv
    go_enter Try.func5, Try.ntmps5
    go_wp2_with fail
    refine C1.out.mono ?_
    rintro e w1 ⟨rfl, hb⟩
    have HB1 := Lib.hid (HB0.out.trans (hb.mono HB0.out.size)); clear hb
    go_wp2
    go_ret
    exact ⟨ret_bool (by simp), HB1.out⟩
  · have HT := Lib.hid (two_four hv.symm); clear hv
    obtain ⟨r, hr⟩ : ∃ r, r = Gp.grp l ss zs := ⟨_, rfl⟩
    have CG := Lib.hid (fun (W : World) (hb : Below w.heap.size w W) (m0 : W.cell? ⟨w.heap.size, 0, none⟩ = some (.int .i64 l)) => sGroup_any l w.heap.size A n c ss A' m c' zs B B' W hn hm hmc HT.out.1 HT.out.2.2 (H.out.below hb) (H'.out.below hb) m0)
    rw [← hr] at CG ⊢
    clear hr
    have X0 := Lib.hid (Bx.new w 28 #[.int .i64 l, .int .i64 b])
    go_enter Try.func5, Try.ntmps5
    go_wp2_with fail
    refine C1.out.mono ?_
    rintro e w1 ⟨rfl, hb⟩
    have X1 := Lib.hid (X0.out.keep hb)
    have HB1 := Lib.hid (HB0.out.trans (hb.mono HB0.out.size)); clear hb
    go_wp2_with fail
    refine (CG.out _ HB1.out (X1.out.cell 0)).mono ?_
    rintro e w2 ⟨rfl, hb⟩
    have HB2 := Lib.hid (HB1.out.trans (hb.mono HB1.out.size)); clear hb
    go_wp2
    go_ret
    exact ⟨ret_bool (by simp), HB2.out⟩
set_option maxHeartbeats 1000000 in
theorem iIsGroup_any (l b : Int) (A : Option Addr) (n c : Nat) (ss : List Sc.St) (A' : Option Addr) (m c' : Nat) (zs : List Int) (B B' : Nat) (w : World) (hn : n ≤ 1048576) (hm : m ≤ 1048576) (hnc : n ≤ c) (h : RdS w B A n ss) (h' : Rd w B' A' m zs) :
    Calls Try.prog 9 #[.agg #[.int .i64 l, .int .i64 b], .slice A n c, .slice A' m c'] w (RetB (isG l b ss zs) w) := by
  have hb0 : Below w.heap.size w (w.alloc (.cells #[.int .i64 l, .int .i64 b] 28)) := (Below.refl _ _).alloc (Nat.le_refl _) _
  have HB0 := Lib.hid hb0
  have hlen := h.len
  have H := Lib.hid h
  have H' := Lib.hid h'
  unfold isG
  obtain ⟨v, hv⟩ : ∃ v, v = (Mc.mok l b && decide (l ≤ 4) && Sc.valid ss) := ⟨_, rfl⟩
  rw [← hv]
  clear hb0
  cases v
  · have C1 := Lib.hid (packerOf_no l b A n c ss B (w.alloc (.cells #[.int .i64 l, .int .i64 b] 28)) hn (h.below HB0.out) hv.symm)
    clear hv h h'
    go_enter Try.func9, Try.ntmps9
    go_wp2_with fail
    refine C1.out.mono ?_
    rintro e w1 ⟨rfl, hb⟩
    have HB1 := Lib.hid (HB0.out.trans (hb.mono HB0.out.size)); clear hb
    go_wp2
    go_ret
    exact ⟨ret_bool (by simp), HB1.out.alloc HB1.out.size _⟩
  · have ht := two_four hv.symm
    have hn16 : n ≤ 16 := by have := Sc.len_of_valid ht.2.2; omega
    have C1 := Lib.hid (packerOf_any l b A n c ss B (w.alloc (.cells #[.int .i64 l, .int .i64 b] 28)) hn (h.below HB0.out) ht.2.2 ht.2.1 ht.1 hnc)
    have HE := Lib.hid (Gp.grp_same ss zs ht.1)
    clear hv h h' ht
    obtain ⟨r, hr⟩ : ∃ r, r = Gp.grp l ss zs := ⟨_, rfl⟩
    rw [← hr] at HE ⊢
    have HLEN := Lib.hid hlen
    clear hr hlen
    go_enter Try.func9, Try.ntmps9
    go_wp2_with fail
    refine C1.out.mono ?_
    rintro e w1 ⟨gn, gm, rfl, _, _, _, _, hmt, hb⟩
    have HM1 := Lib.hid hmt
    have HB1 := Lib.hid (HB0.out.trans (hb.mono HB0.out.size)); clear hb hmt
    have hb2 : Below w1.heap.size w1 (w1.alloc (.cells #[.int .i64 l, .int .i64 b, .slice A n c, .slice (some ⟨gn, 0, none⟩) n n, .slice (some ⟨gm, 0, none⟩) n n] 46)) := (Below.refl _ _).alloc (Nat.le_refl _) _
    have HB2 := Lib.hid (HB1.out.trans (hb2.mono HB1.out.size))
    have C2 := Lib.hid (iGroup_any l b A n c ss gn gm A' m c' zs B' _ hm hn16 HLEN.out (HM1.out.keep hb2) (H'.out.below HB2.out))
    rw [← HE.out] at C2
    clear hb2
    go_wp2_with fail
    refine C2.out.mono ?_
    rintro e w2 ⟨rfl, hb⟩
    have HB3 := Lib.hid (HB2.out.trans (hb.mono HB2.out.size)); clear hb
    go_wp2
    go_ret
    exact ⟨ret_bool (by simp), HB3.out⟩
end Go.Proofs.Ytgkpjeheoinpiaa.Wds
