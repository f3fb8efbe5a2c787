/-
  What code does to cells: the code's function.
-/
import Derived.Test.YtacbcjlpajmkhaaGreatDoorRunM
import Derived.Test.YtacbcjlpajmkhaaGreatDoorWise8
import Derived.Test.YtacbcjlpajmkhaaGreatDoorWise16
import Derived.Test.YtacbcjlpajmkhaaGreatDoorTailQ
namespace Go.Proofs.YtacbcjlpajmkhaaGreatDoor.Wds
open Go.RowKit Go.Proofs.YtacbcjlpajmkhaaGreatDoor.Err
set_option linter.unusedVariables false

set_option maxRecDepth 100000 in
set_option maxHeartbeats 4000000 in
theorem iRunOk8_any (b : Int) (A : Option Addr) (n c : Nat) (ss : List Sc.St) (B : Nat) (A' : Option Addr) (c' : Nat) (zs : List Int) (B' : Nat) (w : World) (hbb : (b = 4 ∨ b = 8)) (h : RdS w B A n ss) (h' : Rd w B' A' 32 zs) (hv : Sc.valid ss = true) (hw : wordsB b zs = true) (hE : ErrT w) :
    Calls Tryz.prog 31 #[.int .i64 b, .slice A n c, .slice A' 32 c'] w (Ret1 (runAt b ss zs ss.length) true w) := by
  have hl := h.len
  have hn : n ≤ 16 := by have := Sc.len_of_valid hv; rw [hl] at this; exact this
  have hl' := h'.len
  obtain ⟨g', o', hA', _, _⟩ := h'.at_ (k := 0) (by omega)
  subst hA'
  have CV := Lib.hid (fun W (hb : Below w.heap.size w W) => iValidCode_any A n c ss B W (by omega) (h.below hb))
  have CA := Lib.hid (fun W (hb : Below w.heap.size w W) => areW_any b (some ⟨g', o', none⟩) 32 c' zs B' W (by omega) (h'.below hb))
  rw [hv] at CV
  rw [show (zs.all fun z => decide (Wd.IsWord b z)) = true from hw] at CA
  have CO := Lib.hid (fun W (hb : Below w.heap.size w W) => clone_any ⟨g', o', none⟩ 32 c' zs B' W (by omega) (h'.below hb))
  have HW := Lib.hid (runAt_word hv hw hl')
  have HV := Lib.hid hv
  have HL := Lib.hid hl
  have HL' := Lib.hid hl'
  have H := Lib.hid h
  have HE := Lib.hid hE
  have CR := Lib.hid (fun op W => resultOf8_any op b W hbb)
  have HBBH := Lib.hid hbb
  clear h h' hv hw hl hl' hE hbb
  go_enter Tryz.func31, Tryz.ntmps31
  go_wp2_with fail
  refine (CV.out _ (Below.refl _ _)).mono ?_
  rintro e w1 ⟨rfl, hb1⟩
  have HB1 := Lib.hid hb1; clear hb1
  go_wp2_with fail
  refine (CA.out _ HB1.out).mono ?_
  rintro e w2 ⟨rfl, hb2⟩
  have HB2 := Lib.hid (HB1.out.trans (hb2.mono HB1.out.size)); clear hb2
  go_wp2_with fail
  refine (CO.out _ HB2.out).mono ?_
  rintro e w4 ⟨A4, n4, c4, rfl, ho, hn4, hc4, hb⟩
  obtain rfl : 32 = n4 := HL'.out.symm.trans ho.len
  obtain ⟨g4, o4, rfl, _, _⟩ := ho.rd.at_ (k := 0) (by omega)
  have HO4 := Lib.hid (ho.more HB2.out.size (Nat.le_refl _))
  have HB4 := Lib.hid (HB2.out.trans (hb.mono HB2.out.size))
  clear ho hb
  go_wp2
  go_loopw [29] (fun i wr => ∃ k : Nat, k ≤ n ∧ i = .int .i64 k ∧ Own wr w.heap.size w4.heap.size (some ⟨g4, o4, none⟩) 32 (runAt b ss zs k) ∧ w4.heap.size ≤ wr.heap.size ∧ Below w.heap.size w wr) (fun i _ => n - (intOf i).toNat)
  case atStart => exact ⟨0, Nat.zero_le _, rfl, HO4.out, Nat.le_refl _, HB4.out⟩
  case round =>
    rename World => wr
    obtain ⟨k, hk, rfl, hown, hsz, hbw⟩ := hrel
    by_cases hlt : k < n
    · obtain ⟨g, o, rfl, hg, c0, c1, c2, c3⟩ := (H.out.below hbw).at_ hlt
      have hok := Sc.ok_of_valid HV.out (k := k) (by rw [HL.out]; exact hlt)
      have hsu := runAt_succ (b := b) (ss := ss) (zs := zs) (k := k) (by rw [HL.out]; exact hlt)
      obtain ⟨x, hx⟩ : ∃ x, x = Sc.nth ss k := ⟨_, rfl⟩
      rw [← hx] at c0 c1 c2 c3 hok hsu
      obtain ⟨p, d, a, b2⟩ := x
      obtain ⟨hp, hd, ha, hb2⟩ := Sc.ok_cells hok
      simp only at c0 c1 c2 c3 hp hd ha hb2
      obtain ⟨dn, rfl⟩ := Int.eq_ofNat_of_zero_le hd.1
      obtain ⟨an, rfl⟩ := Int.eq_ofNat_of_zero_le ha.1
      obtain ⟨bn, rfl⟩ := Int.eq_ofNat_of_zero_le hb2.1
      have wa := HW.out k (by rw [HL.out]; exact hk) an (by omega)
      have wb := HW.out k (by rw [HL.out]; exact hk) bn (by omega)
      obtain ⟨ga, oa, ea, _, ca⟩ := hown.rd.at_ (k := an) (by omega)
      injection ea with ea; injection ea with e1 e2; subst e1; subst e2
      obtain ⟨ga, oa, ea, _, cb⟩ := hown.rd.at_ (k := bn) (by omega)
      injection ea with ea; injection ea with e1 e2; subst e1; subst e2
      obtain ⟨fd, h1, h2, u, cd⟩ := frozen_of hown (k := dn) (by omega) rfl
      have hsu2 : runAt b ss zs (k + 1) = (runAt b ss zs k).set dn (Wd.doOp p b ((runAt b ss zs k).getD an 0) ((runAt b ss zs k).getD bn 0)) := by rw [hsu, runStep]; simp
      obtain ⟨y, hy⟩ : ∃ y, y = (runAt b ss zs k).getD an 0 := ⟨_, rfl⟩
      obtain ⟨z, hz⟩ : ∃ y, y = (runAt b ss zs k).getD bn 0 := ⟨_, rfl⟩
      rw [← hy] at wa ca hsu2
      rw [← hz] at wb cb hsu2
      have CK := Lib.hid (fun W (hbW : Below w.heap.size w W) => result8_any p b y z W hp.1 hp.2 HBBH.out wa wb (HE.out.below hbW HE.out.lt))
      obtain ⟨r, hr⟩ : ∃ r, r = Wd.doOp p b y z := ⟨_, rfl⟩
      rw [← hr] at CK hsu2
      obtain ⟨w6, hw6⟩ : ∃ v, v = wr.alloc (.cells #[.int .i64 p, .int .i64 (dn : Int), .int .i64 (an : Int), .int .i64 (bn : Int)] 46) := ⟨_, rfl⟩
      have hx6 := BlkS.new wr #[.int .i64 p, .int .i64 (dn : Int), .int .i64 (an : Int), .int .i64 (bn : Int)]
      have hb6 : Below wr.heap.size wr w6 := by rw [hw6]; exact (Below.refl _ _).alloc (Nat.le_refl _) _
      rw [← hw6] at hx6
      have q0 := hx6.cell 0
      have q1 := hx6.cell 1
      have q2 := hx6.cell 2
      have q3 := hx6.cell 3
      have hgw := World.block_lt_of_cell? wr _ cd
      have ra := (hb6.cell (p := ⟨g4, o4 + an, none⟩) hgw).trans ca
      have rb := (hb6.cell (p := ⟨g4, o4 + bn, none⟩) hgw).trans cb
      have HOW := Lib.hid (hown.below hb6)
      have HBW := Lib.hid (hbw.trans (hb6.mono hbw.size))
      have HSZ := Lib.hid (show w4.heap.size ≤ w6.heap.size from Nat.le_trans hsz hb6.size)
      have HX6 := Lib.hid hx6.lt
      have HG6 := Lib.hid (show g4 < w6.heap.size from Nat.lt_of_lt_of_le hgw hb6.size)
      have HSU := Lib.hid hsu2
      have HH1 := Lib.hid h1
      have i1 : (0 : Int) ≤ (k : Int) := by omega
      have i2 : (k : Int) < (n : Int) := by omega
      have k1 : (dn : Int) < 32 := by omega
      have k2 : (an : Int) < 32 := by omega
      have k3 : (bn : Int) < 32 := by omega
      have HW6 := Lib.hid hw6
      clear hsu hsu2 hx hok hown hbw hsz hy hz hr wa wb hp hd ha hb2 hx6 hb6 ca cb cd fd hw6
      go_wp2
      rw [← HW6.out]
      have b0 := BelBy.cell q0
      have b1 := BelBy.cell q1
      have b2 := BelBy.cell q2
      have b3 := BelBy.cell q3
      have b4 := BelBy.cell ra
      have b5 := BelBy.cell rb
      have CKp := Lib.hid (fun (p : BelBy w6) => calls_bel (CK.out p.W (HBW.out.trans (p.h.mono HBW.out.size))))
      have CRp := Lib.hid (fun op (p : BelBy w6) => calls_bel (CR.out op p.W))
      clear q0 q1 q2 q3 ra rb CK
      refine wp_region_bel_tail 19 (by kernel_rfl) (by kernel_rfl) ?_
      simp only [List.take_succ_cons, List.take_zero, List.drop_succ_cons, List.drop_zero]
      repeat (go_big_quiet_step (first | (go_at_call 50; exact CRp.out _ _) | (go_at_call 84; exact CKp.out _)))
      refine wpQuiet_nil ?_
      rintro w8 ⟨⟨_, h8⟩, rfl⟩
      have ho8 := HOW.out.below h8
      obtain ⟨ff, _, _, ud, hud⟩ := frozen_of ho8 (k := dn) (by omega) rfl
      have HO8 := Lib.hid ho8
      have HB8 : Hid (Below w6.heap.size w6 w8) := h8
      clear b0 b1 b2 b3 b4 b5 ho8 h8
      go_wp2
      all_goals
        refine ⟨⟨k + 1, by omega, by go_num, ?_, ?_, ?_⟩, by simp [intOf]; omega⟩
        · have hst := HO8.out.store (k := dn) (by omega) r
          rw [← HSU.out] at hst
          first | exact hst | exact (hst : Own _ _ _ _ _ _)
        · have h9 := HB8.out.size
          have h8 := HSZ.out
          simp [World.setCell]
          omega
        · have hbf := (HBW.out.trans (HB8.out.mono HBW.out.size)).setCell (p := ⟨g4, o4 + dn, none⟩) HH1.out (.int .i64 r)
          first | exact hbf | exact hbf.drew
    · have hkn : k = n := by omega
      subst hkn
      have hfin : runAt b ss zs ss.length = runAt b ss zs k := by rw [HL.out]
      have HF := Lib.hid hfin
      have HO := Lib.hid (hown.more (Nat.le_refl _) hsz)
      have HB := Lib.hid hbw
      clear hown hbw hsz hfin
      go_wp2
      go_ret2
      rw [HF.out]
      exact ⟨_, 32, c4, rfl, HO.out, by omega, HB.out⟩
set_option maxRecDepth 100000 in
set_option maxHeartbeats 4000000 in
theorem iRunOk16_any (b : Int) (A : Option Addr) (n c : Nat) (ss : List Sc.St) (B : Nat) (A' : Option Addr) (c' : Nat) (zs : List Int) (B' : Nat) (w : World) (hbb : (16 ≤ b ∧ b ≤ 16)) (h : RdS w B A n ss) (h' : Rd w B' A' 32 zs) (hv : Sc.valid ss = true) (hw : wordsB b zs = true) (hE : ErrT w) :
    Calls Tryz.prog 31 #[.int .i64 b, .slice A n c, .slice A' 32 c'] w (Ret1 (runAt b ss zs ss.length) true w) := by
  have hl := h.len
  have hn : n ≤ 16 := by have := Sc.len_of_valid hv; rw [hl] at this; exact this
  have hl' := h'.len
  obtain ⟨g', o', hA', _, _⟩ := h'.at_ (k := 0) (by omega)
  subst hA'
  have CV := Lib.hid (fun W (hb : Below w.heap.size w W) => iValidCode_any A n c ss B W (by omega) (h.below hb))
  have CA := Lib.hid (fun W (hb : Below w.heap.size w W) => areW_any b (some ⟨g', o', none⟩) 32 c' zs B' W (by omega) (h'.below hb))
  rw [hv] at CV
  rw [show (zs.all fun z => decide (Wd.IsWord b z)) = true from hw] at CA
  have CO := Lib.hid (fun W (hb : Below w.heap.size w W) => clone_any ⟨g', o', none⟩ 32 c' zs B' W (by omega) (h'.below hb))
  have HW := Lib.hid (runAt_word hv hw hl')
  have HV := Lib.hid hv
  have HL := Lib.hid hl
  have HL' := Lib.hid hl'
  have H := Lib.hid h
  have HE := Lib.hid hE
  have CR := Lib.hid (fun op W => resultOf16_any op b W hbb)
  have HBBH := Lib.hid hbb
  clear h h' hv hw hl hl' hE hbb
  go_enter Tryz.func31, Tryz.ntmps31
  go_wp2_with fail
  refine (CV.out _ (Below.refl _ _)).mono ?_
  rintro e w1 ⟨rfl, hb1⟩
  have HB1 := Lib.hid hb1; clear hb1
  go_wp2_with fail
  refine (CA.out _ HB1.out).mono ?_
  rintro e w2 ⟨rfl, hb2⟩
  have HB2 := Lib.hid (HB1.out.trans (hb2.mono HB1.out.size)); clear hb2
  go_wp2_with fail
  refine (CO.out _ HB2.out).mono ?_
  rintro e w4 ⟨A4, n4, c4, rfl, ho, hn4, hc4, hb⟩
  obtain rfl : 32 = n4 := HL'.out.symm.trans ho.len
  obtain ⟨g4, o4, rfl, _, _⟩ := ho.rd.at_ (k := 0) (by omega)
  have HO4 := Lib.hid (ho.more HB2.out.size (Nat.le_refl _))
  have HB4 := Lib.hid (HB2.out.trans (hb.mono HB2.out.size))
  clear ho hb
  go_wp2
  go_loopw [29] (fun i wr => ∃ k : Nat, k ≤ n ∧ i = .int .i64 k ∧ Own wr w.heap.size w4.heap.size (some ⟨g4, o4, none⟩) 32 (runAt b ss zs k) ∧ w4.heap.size ≤ wr.heap.size ∧ Below w.heap.size w wr) (fun i _ => n - (intOf i).toNat)
  case atStart => exact ⟨0, Nat.zero_le _, rfl, HO4.out, Nat.le_refl _, HB4.out⟩
  case round =>
    rename World => wr
    obtain ⟨k, hk, rfl, hown, hsz, hbw⟩ := hrel
    by_cases hlt : k < n
    · obtain ⟨g, o, rfl, hg, c0, c1, c2, c3⟩ := (H.out.below hbw).at_ hlt
      have hok := Sc.ok_of_valid HV.out (k := k) (by rw [HL.out]; exact hlt)
      have hsu := runAt_succ (b := b) (ss := ss) (zs := zs) (k := k) (by rw [HL.out]; exact hlt)
      obtain ⟨x, hx⟩ : ∃ x, x = Sc.nth ss k := ⟨_, rfl⟩
      rw [← hx] at c0 c1 c2 c3 hok hsu
      obtain ⟨p, d, a, b2⟩ := x
      obtain ⟨hp, hd, ha, hb2⟩ := Sc.ok_cells hok
      simp only at c0 c1 c2 c3 hp hd ha hb2
      obtain ⟨dn, rfl⟩ := Int.eq_ofNat_of_zero_le hd.1
      obtain ⟨an, rfl⟩ := Int.eq_ofNat_of_zero_le ha.1
      obtain ⟨bn, rfl⟩ := Int.eq_ofNat_of_zero_le hb2.1
      have wa := HW.out k (by rw [HL.out]; exact hk) an (by omega)
      have wb := HW.out k (by rw [HL.out]; exact hk) bn (by omega)
      obtain ⟨ga, oa, ea, _, ca⟩ := hown.rd.at_ (k := an) (by omega)
      injection ea with ea; injection ea with e1 e2; subst e1; subst e2
      obtain ⟨ga, oa, ea, _, cb⟩ := hown.rd.at_ (k := bn) (by omega)
      injection ea with ea; injection ea with e1 e2; subst e1; subst e2
      obtain ⟨fd, h1, h2, u, cd⟩ := frozen_of hown (k := dn) (by omega) rfl
      have hsu2 : runAt b ss zs (k + 1) = (runAt b ss zs k).set dn (Wd.doOp p b ((runAt b ss zs k).getD an 0) ((runAt b ss zs k).getD bn 0)) := by rw [hsu, runStep]; simp
      obtain ⟨y, hy⟩ : ∃ y, y = (runAt b ss zs k).getD an 0 := ⟨_, rfl⟩
      obtain ⟨z, hz⟩ : ∃ y, y = (runAt b ss zs k).getD bn 0 := ⟨_, rfl⟩
      rw [← hy] at wa ca hsu2
      rw [← hz] at wb cb hsu2
      have CK := Lib.hid (fun W (hbW : Below w.heap.size w W) => result16_any p b y z W hp.1 hp.2 HBBH.out wa wb (HE.out.below hbW HE.out.lt))
      obtain ⟨r, hr⟩ : ∃ r, r = Wd.doOp p b y z := ⟨_, rfl⟩
      rw [← hr] at CK hsu2
      obtain ⟨w6, hw6⟩ : ∃ v, v = wr.alloc (.cells #[.int .i64 p, .int .i64 (dn : Int), .int .i64 (an : Int), .int .i64 (bn : Int)] 46) := ⟨_, rfl⟩
      have hx6 := BlkS.new wr #[.int .i64 p, .int .i64 (dn : Int), .int .i64 (an : Int), .int .i64 (bn : Int)]
      have hb6 : Below wr.heap.size wr w6 := by rw [hw6]; exact (Below.refl _ _).alloc (Nat.le_refl _) _
      rw [← hw6] at hx6
      have q0 := hx6.cell 0
      have q1 := hx6.cell 1
      have q2 := hx6.cell 2
      have q3 := hx6.cell 3
      have hgw := World.block_lt_of_cell? wr _ cd
      have ra := (hb6.cell (p := ⟨g4, o4 + an, none⟩) hgw).trans ca
      have rb := (hb6.cell (p := ⟨g4, o4 + bn, none⟩) hgw).trans cb
      have HOW := Lib.hid (hown.below hb6)
      have HBW := Lib.hid (hbw.trans (hb6.mono hbw.size))
      have HSZ := Lib.hid (show w4.heap.size ≤ w6.heap.size from Nat.le_trans hsz hb6.size)
      have HX6 := Lib.hid hx6.lt
      have HG6 := Lib.hid (show g4 < w6.heap.size from Nat.lt_of_lt_of_le hgw hb6.size)
      have HSU := Lib.hid hsu2
      have HH1 := Lib.hid h1
      have i1 : (0 : Int) ≤ (k : Int) := by omega
      have i2 : (k : Int) < (n : Int) := by omega
      have k1 : (dn : Int) < 32 := by omega
      have k2 : (an : Int) < 32 := by omega
      have k3 : (bn : Int) < 32 := by omega
      have HW6 := Lib.hid hw6
      clear hsu hsu2 hx hok hown hbw hsz hy hz hr wa wb hp hd ha hb2 hx6 hb6 ca cb cd fd hw6
      go_wp2
      rw [← HW6.out]
      have b0 := BelBy.cell q0
      have b1 := BelBy.cell q1
      have b2 := BelBy.cell q2
      have b3 := BelBy.cell q3
      have b4 := BelBy.cell ra
      have b5 := BelBy.cell rb
      have CKp := Lib.hid (fun (p : BelBy w6) => calls_bel (CK.out p.W (HBW.out.trans (p.h.mono HBW.out.size))))
      have CRp := Lib.hid (fun op (p : BelBy w6) => calls_bel (CR.out op p.W))
      clear q0 q1 q2 q3 ra rb CK
      refine wp_region_bel_tail 19 (by kernel_rfl) (by kernel_rfl) ?_
      simp only [List.take_succ_cons, List.take_zero, List.drop_succ_cons, List.drop_zero]
      repeat (go_big_quiet_step (first | (go_at_call 50; exact CRp.out _ _) | (go_at_call 83; exact CKp.out _)))
      refine wpQuiet_nil ?_
      rintro w8 ⟨⟨_, h8⟩, rfl⟩
      have ho8 := HOW.out.below h8
      obtain ⟨ff, _, _, ud, hud⟩ := frozen_of ho8 (k := dn) (by omega) rfl
      have HO8 := Lib.hid ho8
      have HB8 : Hid (Below w6.heap.size w6 w8) := h8
      clear b0 b1 b2 b3 b4 b5 ho8 h8
      go_wp2
      all_goals
        refine ⟨⟨k + 1, by omega, by go_num, ?_, ?_, ?_⟩, by simp [intOf]; omega⟩
        · have hst := HO8.out.store (k := dn) (by omega) r
          rw [← HSU.out] at hst
          first | exact hst | exact (hst : Own _ _ _ _ _ _)
        · have h9 := HB8.out.size
          have h8 := HSZ.out
          simp [World.setCell]
          omega
        · have hbf := (HBW.out.trans (HB8.out.mono HBW.out.size)).setCell (p := ⟨g4, o4 + dn, none⟩) HH1.out (.int .i64 r)
          first | exact hbf | exact hbf.drew
    · have hkn : k = n := by omega
      subst hkn
      have hfin : runAt b ss zs ss.length = runAt b ss zs k := by rw [HL.out]
      have HF := Lib.hid hfin
      have HO := Lib.hid (hown.more (Nat.le_refl _) hsz)
      have HB := Lib.hid hbw
      clear hown hbw hsz hfin
      go_wp2
      go_ret2
      rw [HF.out]
      exact ⟨_, 32, c4, rfl, HO.out, by omega, HB.out⟩
theorem iRunCode_any (b : Int) (A : Option Addr) (n c : Nat) (ss : List Sc.St) (B : Nat) (A' : Option Addr) (n' c' : Nat) (zs : List Int) (B' : Nat) (w : World) (hn : n ≤ 1048576) (hn' : n' ≤ 1048576) (h : RdS w B A n ss) (h' : Rd w B' A' n' zs) (hE : ErrT w) :
    Calls Tryz.prog 31 #[.int .i64 b, .slice A n c, .slice A' n' c'] w (Ret1 (run2 b ss zs).1 (run2 b ss zs).2 w) := by
  have CV := Lib.hid (iValidCode_any A n c ss B w hn h)
  have hl' := h'.len
  obtain ⟨v, hv⟩ : ∃ v, v = Sc.valid ss := ⟨_, rfl⟩
  rw [← hv] at CV
  cases v
  · rw [run2_no (by rw [← hv]; rfl)]
    clear hv hl' h h' hE
    go_enter Tryz.func31, Tryz.ntmps31
    go_wp2_with fail
    refine CV.out.mono ?_
    rintro e w1 ⟨rfl, hb⟩
    have HB := Lib.hid hb; clear hb
    go_wp2
    go_ret2
    exact Ret1.none2 HB.out
  · by_cases h32 : n' = 32
    rotate_left
    · rw [run2_no (by rw [← hv, hl', decide_eq_false h32]; rfl)]
      have e1 : ((n' : Int) == 32) = false := by simp; omega
      have e2 : ((n' : Int) != 32) = true := by simp; omega
      have e3 : decide ((n' : Int) = 32) = false := decide_eq_false (by omega)
      clear hv hl' h h' hE
      go_enter Tryz.func31, Tryz.ntmps31
      go_wp2_with fail
      refine CV.out.mono ?_
      rintro e w1 ⟨rfl, hb⟩
      have HB := Lib.hid hb; clear hb
      go_wp2
      go_ret2
      exact Ret1.none2 HB.out
    · subst h32
      obtain ⟨q, hq⟩ : ∃ q, q = wordsB b zs := ⟨_, rfl⟩
      cases q
      · have CW := Lib.hid (fun W (hb : Below w.heap.size w W) => areW_any b A' 32 c' zs B' W (by omega) (h'.below hb))
        rw [show (zs.all fun z => decide (Wd.IsWord b z)) = false from hq.symm] at CW
        rw [run2_no (by rw [← hq, Bool.and_false])]
        clear hv hl' h h' hq hE
        go_enter Tryz.func31, Tryz.ntmps31
        go_wp2_with fail
        refine CV.out.mono ?_
        rintro e w1 ⟨rfl, hb⟩
        have HB := Lib.hid hb; clear hb
        go_wp2_with fail
        refine (CW.out _ HB.out).mono ?_
        rintro e w2 ⟨rfl, hb2⟩
        have HB2 := Lib.hid (HB.out.trans (hb2.mono HB.out.size)); clear hb2
        go_wp2
        go_ret2
        exact Ret1.none2 HB2.out
      · rw [run2_yes (by rw [← hq, ← hv, hl']; rfl)]
        have hw0 := word_at hq.symm (i := 0) (by omega)
        rcases hw0.1 with rfl | rfl | rfl
        · exact iRunOk8_any 4 A n c ss B A' c' zs B' w (.inl rfl) h h' hv.symm hq.symm hE
        · exact iRunOk8_any 8 A n c ss B A' c' zs B' w (.inr rfl) h h' hv.symm hq.symm hE
        · exact iRunOk16_any 16 A n c ss B A' c' zs B' w ⟨by omega, by omega⟩ h h' hv.symm hq.symm hE
end Go.Proofs.YtacbcjlpajmkhaaGreatDoor.Wds
