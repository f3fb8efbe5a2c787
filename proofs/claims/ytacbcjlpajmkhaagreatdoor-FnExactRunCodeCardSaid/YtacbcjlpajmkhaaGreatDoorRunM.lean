/-
  What code does to cells: plain mathematics, and the model's function.
-/
import Derived.Test.YtacbcjlpajmkhaaGreatDoorVCode
import Derived.Test.YtacbcjlpajmkhaaGreatDoorRetS
import Derived.Test.YtacbcjlpajmkhaaGreatDoorLawDoOp
import Derived.Test.YtacbcjlpajmkhaaGreatDoorCpy
import Derived.Deep.RegionWith
import Derived.Deep.RegionHeld3
import Derived.Test.YtacbcjlpajmkhaaGreatDoorTailQ
namespace Go.Proofs.YtacbcjlpajmkhaaGreatDoor.Wds
open Go.RowKit Go.Proofs.YtacbcjlpajmkhaaGreatDoor.Err
set_option linter.unusedVariables false

def runStep (b : Int) (zs : List Int) (s : Sc.St) : List Int := zs.set s.d.toNat (Wd.doOp s.op b (zs.getD s.a.toNat 0) (zs.getD s.b.toNat 0))
def runAt (b : Int) (ss : List Sc.St) (zs : List Int) (k : Nat) : List Int := (ss.take k).foldl (runStep b) zs
theorem runAt_succ {b : Int} {ss : List Sc.St} {zs : List Int} {k : Nat} (h : k < ss.length) : runAt b ss zs (k + 1) = runStep b (runAt b ss zs k) (Sc.nth ss k) := by
  rw [runAt, List.take_succ_eq_append_getElem h, List.foldl_append, Sc.nth, List.getD_eq_getElem?_getD, List.getElem?_eq_getElem h]; rfl
theorem runStep_len (b : Int) (zs : List Int) (s : Sc.St) : (runStep b zs s).length = zs.length := by simp [runStep]
theorem runAt_len {b : Int} {ss : List Sc.St} {zs : List Int} : ∀ k, k ≤ ss.length → (runAt b ss zs k).length = zs.length := by
  intro k
  induction k with
  | zero => intro _; rfl
  | succ k ih => intro h; rw [runAt_succ (by omega), runStep_len, ih (by omega)]
def wordsB (b : Int) (zs : List Int) : Bool := zs.all fun z => decide (Wd.IsWord b z)
theorem word_at {b : Int} {zs : List Int} (h : wordsB b zs = true) {i : Nat} (hi : i < zs.length) : Wd.IsWord b (zs.getD i 0) := by
  rw [wordsB, List.all_eq_true] at h
  have := h zs[i] (List.getElem_mem hi)
  rw [List.getD_eq_getElem?_getD, List.getElem?_eq_getElem hi]
  exact of_decide_eq_true this
theorem runAt_word {b : Int} {ss : List Sc.St} {zs : List Int} (hv : Sc.valid ss = true) (hw : wordsB b zs = true) (hl : zs.length = 32) : ∀ k, k ≤ ss.length → ∀ i, i < 32 → Wd.IsWord b ((runAt b ss zs k).getD i 0) := by
  intro k
  induction k with
  | zero => intro _ i hi; exact word_at hw (by omega)
  | succ k ih =>
    intro h i hi
    have ih' := ih (by omega)
    have hok := Sc.ok_of_valid hv (k := k) (by omega)
    obtain ⟨ho, hd, ha, hb⟩ := Sc.ok_cells hok
    rw [runAt_succ (by omega), runStep, List.getD_eq_getElem?_getD, List.getElem?_set]
    split
    · split
      · have h1 := ih' (Sc.nth ss k).a.toNat (by omega)
        have h2 := ih' (Sc.nth ss k).b.toNat (by omega)
        exact ⟨h1.1, Wd.doOp_word ho.1 ho.2 h1.1 h1.2 h2.2⟩
      · rename_i h3; exfalso; apply h3; rw [runAt_len k (by omega), hl]; omega
    · rw [← List.getD_eq_getElem?_getD]; exact ih' i hi
def run2 (b : Int) (ss : List Sc.St) (zs : List Int) : List Int × Bool := if Sc.valid ss && decide (zs.length = 32) && wordsB b zs then (runAt b ss zs ss.length, true) else ([], false)
theorem words_bits {b : Int} {zs : List Int} (h : zs.length = 32) : ((zs.all fun z => decide (Wd.IsWord b z)) && decide (Wd.IsBits b)) = wordsB b zs := by
  unfold wordsB
  cases e : zs.all fun z => decide (Wd.IsWord b z)
  · rfl
  · have := word_at (b := b) (zs := zs) e (i := 0) (by omega)
    rw [decide_eq_true this.1]; rfl
theorem Ret1.none2 {w w' : World} (hb : Below w.heap.size w w') : Ret1 [] false w (.returned (.tuple #[.slice none 0 0, .bool false])) w' :=
  ⟨none, 0, 0, rfl, Own.nil _ _ _ _, Nat.zero_le _, hb⟩
set_option maxRecDepth 100000 in
set_option maxHeartbeats 2000000 in
theorem sRun3_any (b : Int) (A : Option Addr) (n c : Nat) (ss : List Sc.St) (B : Nat) (A' : Option Addr) (c' : Nat) (zs : List Int) (B' : Nat) (w : World) (h : RdS w B A n ss) (h' : Rd w B' A' 32 zs) (hv : Sc.valid ss = true) (hw : wordsB b zs = true) :
    Calls Tryz.prog 76 #[.int .i64 b, .slice A n c, .slice A' 32 c'] w (RetL (runAt b ss zs ss.length) w) := by
  have hl := h.len
  have hn : n ≤ 16 := by have := Sc.len_of_valid hv; rw [hl] at this; exact this
  have hl' := h'.len
  obtain ⟨g', o', hA', _, _⟩ := h'.at_ (k := 0) (by omega)
  subst hA'
  have CO := Lib.hid (sOwn_any ⟨g', o', none⟩ 32 c' zs B' w (by omega) h')
  have HW := Lib.hid (runAt_word hv hw hl')
  have HV := Lib.hid hv
  have HL := Lib.hid hl
  have HL' := Lib.hid hl'
  have H := Lib.hid h
  clear h h' hv hw hl hl'
  go_enter Tryz.func76, Tryz.ntmps76
  go_wp2_with fail
  refine CO.out.mono ?_
  rintro e w4 ⟨A4, n4, c4, rfl, ho, hn4, hc4, hb⟩
  obtain rfl : 32 = n4 := HL'.out.symm.trans ho.len
  obtain ⟨g4, o4, rfl, _, _⟩ := ho.rd.at_ (k := 0) (by omega)
  have HO4 := Lib.hid ho
  have HB4 := Lib.hid hb
  clear ho hb
  go_wp2
  go_loopw [8] (fun i wr => ∃ k : Nat, k ≤ n ∧ i = .int .i64 k ∧ Own wr w.heap.size w4.heap.size (some ⟨g4, o4, none⟩) 32 (runAt b ss zs k) ∧ w4.heap.size ≤ wr.heap.size ∧ Below w.heap.size w wr) (fun i _ => n - (intOf i).toNat)
  case atStart => exact ⟨0, Nat.zero_le _, rfl, HO4.out, Nat.le_refl _, HB4.out⟩
  case round =>
    rename World => wr
    obtain ⟨k, hk, rfl, hown, hsz, hbw⟩ := hrel
    by_cases hlt : k < n
    · obtain ⟨g, o, rfl, hg, c0, c1, c2, c3⟩ := (H.out.below hbw).at_ hlt
      have hok := Sc.ok_of_valid HV.out (k := k) (by rw [HL.out]; exact hlt)
      have hsu := runAt_succ (b := b) (ss := ss) (zs := zs) (k := k) (by rw [HL.out]; exact hlt)
      obtain ⟨x, hx⟩ : ∃ x, x = Sc.nth ss k := ⟨_, rfl⟩
      rw [← hx] at c0 c1 c2 c3 hok hsu
      obtain ⟨p, d, a, b2⟩ := x
      obtain ⟨hp, hd, ha, hb2⟩ := Sc.ok_cells hok
      simp only at c0 c1 c2 c3 hp hd ha hb2
      obtain ⟨dn, rfl⟩ := Int.eq_ofNat_of_zero_le hd.1
      obtain ⟨an, rfl⟩ := Int.eq_ofNat_of_zero_le ha.1
      obtain ⟨bn, rfl⟩ := Int.eq_ofNat_of_zero_le hb2.1
      have wa := HW.out k (by rw [HL.out]; exact hk) an (by omega)
      have wb := HW.out k (by rw [HL.out]; exact hk) bn (by omega)
      obtain ⟨ga, oa, ea, _, ca⟩ := hown.rd.at_ (k := an) (by omega)
      injection ea with ea; injection ea with e1 e2; subst e1; subst e2
      obtain ⟨ga, oa, ea, _, cb⟩ := hown.rd.at_ (k := bn) (by omega)
      injection ea with ea; injection ea with e1 e2; subst e1; subst e2
      obtain ⟨fd, h1, h2, u, cd⟩ := frozen_of hown (k := dn) (by omega) rfl
      have hsu2 : runAt b ss zs (k + 1) = (runAt b ss zs k).set dn (Wd.doOp p b ((runAt b ss zs k).getD an 0) ((runAt b ss zs k).getD bn 0)) := by rw [hsu, runStep]; simp
      obtain ⟨y, hy⟩ : ∃ y, y = (runAt b ss zs k).getD an 0 := ⟨_, rfl⟩
      obtain ⟨z, hz⟩ : ∃ y, y = (runAt b ss zs k).getD bn 0 := ⟨_, rfl⟩
      rw [← hy] at wa ca hsu2
      rw [← hz] at wb cb hsu2
      have CK := Lib.hid (fun W => sdo_any p b y z W hp.1 hp.2 wa wb)
      obtain ⟨r, hr⟩ : ∃ r, r = Wd.doOp p b y z := ⟨_, rfl⟩
      rw [← hr] at CK hsu2
      have hgw := World.block_lt_of_cell? wr _ cd
      have HBW0 := Lib.hid hbw
      have HH1 := Lib.hid h1
      have HSU := Lib.hid hsu2
      have HSZ := Lib.hid hsz
      have i1 : (0 : Int) ≤ (k : Int) := by omega
      have i2 : (k : Int) < (n : Int) := by omega
      have k1 : (dn : Int) < 32 := by omega
      have k2 : (an : Int) < 32 := by omega
      have k3 : (bn : Int) < 32 := by omega
      obtain ⟨w6, hw6⟩ : ∃ v, v = wr.alloc (.cells #[.int .i64 p, .int .i64 (dn : Int), .int .i64 (an : Int), .int .i64 (bn : Int)] 46) := ⟨_, rfl⟩
      have hx6 := BlkS.new wr #[.int .i64 p, .int .i64 (dn : Int), .int .i64 (an : Int), .int .i64 (bn : Int)]
      have hb6 : Below wr.heap.size wr w6 := by rw [hw6]; exact (Below.refl _ _).alloc (Nat.le_refl _) _
      rw [← hw6] at hx6
      have HOW := Lib.hid (hown.below hb6)
      have HBW := Lib.hid (HBW0.out.trans (hb6.mono HBW0.out.size))
      have ra := (hb6.cell (p := ⟨g4, o4 + an, none⟩) hgw).trans ca
      have rb := (hb6.cell (p := ⟨g4, o4 + bn, none⟩) hgw).trans cb
      have rd := (hb6.cell (p := ⟨g4, o4 + dn, none⟩) hgw).trans cd
      have rf := ((hown.below hb6 : Own w6 _ _ _ _ _)) |> fun h => (frozen_of h (k := dn) (by omega) rfl).1
      have q0 := hx6.cell 0
      have q1 := hx6.cell 1
      have q2 := hx6.cell 2
      have q3 := hx6.cell 3
      have HW6 := Lib.hid hw6
      have HSZ6 := Lib.hid (show w4.heap.size ≤ w6.heap.size from Nat.le_trans HSZ.out hb6.size)
      clear hsu hsu2 hx hok hown hbw hsz hy hz hr wa wb hp hd ha hb2 hx6 hb6 hw6 ca cb cd fd
      go_wp2
      rw [← HW6.out]
      have b0 := BelBy.cell q0
      have b1 := BelBy.cell q1
      have b2 := BelBy.cell q2
      have b3 := BelBy.cell q3
      have b4 := BelBy.cell ra
      have b5 := BelBy.cell rb
      have CKp := Lib.hid (fun (p : BelBy w6) => calls_bel ((CK.out p.W).mono fun _ _ ⟨he, hw⟩ => ⟨he, hw ▸ Below.refl _ _⟩))
      clear q0 q1 q2 q3 ra rb rd rf CK
      refine wp_region_bel_tail 18 (by kernel_rfl) (by kernel_rfl) ?_
      simp only [List.take_succ_cons, List.take_zero, List.drop_succ_cons, List.drop_zero]
      repeat (go_big_quiet_step ((go_at_call 152; exact CKp.out _)))
      refine wpQuiet_nil ?_
      rintro w8 ⟨⟨_, h8⟩, rfl⟩
      have ho8 := HOW.out.below h8
      obtain ⟨ff, _, _, ud, hud⟩ := frozen_of ho8 (k := dn) (by omega) rfl
      have HO8 := Lib.hid ho8
      have HB8 : Hid (Below w6.heap.size w6 w8) := h8
      clear b0 b1 b2 b3 b4 b5 ho8 h8
      go_wp2
      all_goals
        refine ⟨⟨k + 1, by omega, by go_num, ?_, ?_, ?_⟩, by simp [intOf]; omega⟩
        · have hst := HO8.out.store (k := dn) (by omega) r
          rw [← HSU.out] at hst
          exact hst
        · have h9 := HB8.out.size
          have h10 := HSZ6.out
          simp [World.setCell]
          omega
        · exact (HBW.out.trans (HB8.out.mono HBW.out.size)).setCell (p := ⟨g4, o4 + dn, none⟩) HH1.out (.int .i64 r)
    · have hkn : k = n := by omega
      subst hkn
      have hfin : runAt b ss zs ss.length = runAt b ss zs k := by rw [HL.out]
      have HF := Lib.hid hfin
      have HO := Lib.hid (hown.more (Nat.le_refl _) hsz)
      have HB := Lib.hid hbw
      clear hown hbw hsz hfin
      go_wp2
      go_ret
      rw [HF.out]
      exact ⟨_, 32, c4, rfl, HO.out, by omega, hc4, HB.out⟩
theorem run2_no {b : Int} {ss : List Sc.St} {zs : List Int} (h : (Sc.valid ss && decide (zs.length = 32) && wordsB b zs) = false) : run2 b ss zs = ([], false) := by rw [run2, h]; rfl
theorem run2_yes {b : Int} {ss : List Sc.St} {zs : List Int} (h : (Sc.valid ss && decide (zs.length = 32) && wordsB b zs) = true) : run2 b ss zs = (runAt b ss zs ss.length, true) := by rw [run2, h]; rfl
theorem sRunCode_any (b : Int) (A : Option Addr) (n c : Nat) (ss : List Sc.St) (B : Nat) (A' : Option Addr) (n' c' : Nat) (zs : List Int) (B' : Nat) (w : World) (hn : n ≤ 1048576) (hn' : n' ≤ 1048576) (h : RdS w B A n ss) (h' : Rd w B' A' n' zs) :
    Calls Tryz.prog 35 #[.int .i64 b, .slice A n c, .slice A' n' c'] w (Ret1 (run2 b ss zs).1 (run2 b ss zs).2 w) := by
  have CV := Lib.hid (sIs3_any A n c ss B w hn h)
  have hl' := h'.len
  obtain ⟨v, hv⟩ : ∃ v, v = Sc.valid ss := ⟨_, rfl⟩
  rw [← hv] at CV
  cases v
  · rw [run2_no (by rw [← hv]; rfl)]
    clear hv hl' h h'
    go_enter Tryz.func35, Tryz.ntmps35
    go_wp2_with fail
    refine CV.out.mono ?_
    rintro e w1 ⟨rfl, hb⟩
    have HB := Lib.hid hb; clear hb
    go_wp2
    go_ret2
    exact Ret1.none2 HB.out
  · by_cases h32 : n' = 32
    rotate_left
    · rw [run2_no (by rw [← hv, hl', decide_eq_false h32]; rfl)]
      have e1 : ((n' : Int) == 32) = false := by simp; omega
      have e2 : ((n' : Int) != 32) = true := by simp; omega
      have e3 : decide ((n' : Int) = 32) = false := decide_eq_false (by omega)
      clear hv hl' h h'
      go_enter Tryz.func35, Tryz.ntmps35
      go_wp2_with fail
      refine CV.out.mono ?_
      rintro e w1 ⟨rfl, hb⟩
      have HB := Lib.hid hb; clear hb
      go_wp2
      go_ret2
      exact Ret1.none2 HB.out
    · subst h32
      have CW := Lib.hid (fun W (hb : Below w.heap.size w W) => sWords_any b A' 32 c' zs B' W (by omega) (h'.below hb))
      rw [words_bits hl'] at CW
      obtain ⟨q, hq⟩ : ∃ q, q = wordsB b zs := ⟨_, rfl⟩
      rw [← hq] at CW
      cases q
      · rw [run2_no (by rw [← hq, Bool.and_false])]
        clear hv hl' h h' hq
        go_enter Tryz.func35, Tryz.ntmps35
        go_wp2_with fail
        refine CV.out.mono ?_
        rintro e w1 ⟨rfl, hb⟩
        have HB := Lib.hid hb; clear hb
        go_wp2_with fail
        refine (CW.out _ HB.out).mono ?_
        rintro e w2 ⟨rfl, hb2⟩
        have HB2 := Lib.hid (HB.out.trans (hb2.mono HB.out.size)); clear hb2
        go_wp2
        go_ret2
        exact Ret1.none2 HB2.out
      · rw [run2_yes (by rw [← hq, ← hv, hl']; rfl)]
        have CR := Lib.hid (fun W (hb : Below w.heap.size w W) => sRun3_any b A n c ss B A' c' zs B' W (h.below hb) (h'.below hb) hv.symm hq.symm)
        clear hv hl' h h' hq
        go_enter Tryz.func35, Tryz.ntmps35
        go_wp2_with fail
        refine CV.out.mono ?_
        rintro e w1 ⟨rfl, hb⟩
        have HB := Lib.hid hb; clear hb
        go_wp2_with fail
        refine (CW.out _ HB.out).mono ?_
        rintro e w2 ⟨rfl, hb2⟩
        have HB2 := Lib.hid (HB.out.trans (hb2.mono HB.out.size)); clear hb2
        go_wp2_with fail
        refine (CR.out _ HB2.out).mono ?_
        rintro e w3 ⟨Am, m, cm, rfl, ho, hm, hmc, hb3⟩
        have HO := Lib.hid ho
        have HB3 := Lib.hid hb3; clear ho hb3
        go_wp2
        go_ret2
        exact ⟨Am, m, cm, rfl, HO.out.more HB2.out.size (Nat.le_refl _), hm, HB2.out.trans (HB3.out.mono HB2.out.size)⟩
end Go.Proofs.YtacbcjlpajmkhaaGreatDoor.Wds
