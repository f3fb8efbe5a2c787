/-
  The walk of the law FnLanes: for every input that can be read it returns true, and nothing that was there has changed.
-/
import Derived.Test.YtigodbilfjppbaaGreatDoorDrawM
import Derived.Test.YtigodbilfjppbaaGreatDoorLWM
import Derived.Test.YtigodbilfjppbaaGreatDoorCmpL
import Derived.Test.YtigodbilfjppbaaGreatDoorRamp
import Derived.Test.YtigodbilfjppbaaGreatDoorCnt
import Derived.Test.YtigodbilfjppbaaGreatDoorTailQ
namespace Go.Proofs.YtigodbilfjppbaaGreatDoor.Wds
open Go.RowKit Go.Proofs.YtigodbilfjppbaaGreatDoor.Err
set_option linter.unusedVariables false

theorem Rd.cellB {w w' : World} {B g o n : Nat} {zs : List Int} (h : Rd w B (some ⟨g, o, none⟩) n zs) (hb : Below w.heap.size w w') {k : Nat} (hk : k < n) : w'.cell? ⟨g, o + k, none⟩ = some (.int .i64 (zs.getD k 0)) := by
  obtain ⟨g', o', e', _, hc⟩ := h.at_ hk
  injection e' with e'; injection e' with e1 e2; subst e1; subst e2
  exact (hb.cell (p := ⟨g, o + k, none⟩) (World.block_lt_of_cell? w _ hc)).trans hc
theorem laneC {op b : Int} {A1 A2 : Option Addr} {n c1 c2 : Nat} {xs ys : List Int} {B1 B2 : Nat} {w : World} (hop : Ln.isOp op = true) (hv : Ln.both b xs ys = true) (hn : n ≤ 1048576) (r1 : Rd w B1 A1 n xs) (r2 : Rd w B2 A2 n ys) (hg : ErrT w) :
    Calls Tryz.prog 11 #[.int .i64 op, .int .i64 b, .slice A1 n c1, .slice A2 n c2] w (Ret1 (Ln.tab (fun i => Wd.doOp op b (xs.getD i 0) (ys.getD i 0)) n) true w) := by
  have h := iLaneWise_any op b A1 n c1 xs B1 A2 n c2 ys B2 w hn hn r1 r2 hg
  unfold Ln.laneWise Ln.wise at h
  rw [hop, hv, r1.len] at h
  exact h
theorem maskC {op b : Int} {A A1 A2 : Option Addr} {n c c1 c2 : Nat} {ms xs ys : List Int} {B B1 B2 : Nat} {w : World} (hop : Ln.isOp op = true) (hv : Ln.both b xs ys = true) (hm : Ln.msk ms = true) (hn : n ≤ 1048576) (r : Rd w B A n ms) (r1 : Rd w B1 A1 n xs) (r2 : Rd w B2 A2 n ys) (hg : ErrT w) :
    Calls Tryz.prog 12 #[.int .i64 op, .int .i64 b, .slice A n c, .slice A2 n c2, .slice A1 n c1, .slice A2 n c2] w (Ret1 (Ln.tab (fun i => if ms.getD i 0 = 1 then Wd.doOp op b (xs.getD i 0) (ys.getD i 0) else ys.getD i 0) n) true w) := by
  have h := iLaneWiseMasked_any op b A n c ms B A2 n c2 ys B2 A1 n c1 xs B1 A2 n c2 ys B2 w hn hn hn hn r r2 r1 r2 hg
  have e : Ln.sel ms (Ln.wise op b xs ys) ys = Ln.tab (fun i => if ms.getD i 0 = 1 then Wd.doOp op b (xs.getD i 0) (ys.getD i 0) else ys.getD i 0) n := by
    unfold Ln.sel Ln.wise
    rw [r.len, r1.len]
    refine Ln.tab_congr fun i hi => ?_
    rw [Ln.tab_getD _ _ _ hi]
  have c : Ln.lwmC op b ms ys xs ys = true := by
    unfold Ln.lwmC
    rw [hop, hv, hm, r.len, r1.len]
    simp
  unfold Ln.laneWiseMasked at h
  rw [c, e] at h
  exact h
theorem cmpC {q b : Int} {A1 A2 : Option Addr} {n c1 c2 : Nat} {xs ys : List Int} {B1 B2 : Nat} {w : World} (hop : Ln.isCmp q = true) (hv : Ln.both b xs ys = true) (hn : n ≤ 1048576) (r1 : Rd w B1 A1 n xs) (r2 : Rd w B2 A2 n ys) :
    Calls Tryz.prog 13 #[.int .i64 q, .int .i64 b, .slice A1 n c1, .slice A2 n c2] w (Ret1 (Ln.tab (cmpF q b xs ys) n) true w) := by
  have h := iCompareLanes_any q b A1 n c1 xs B1 A2 n c2 ys B2 w hn hn r1 r2
  unfold Ln.compare Ln.cmpL at h
  rw [hop, hv, r1.len] at h
  exact h
theorem selC {b : Int} {A A1 A2 : Option Addr} {n c c1 c2 : Nat} {ms xs ys : List Int} {B B1 B2 : Nat} {w : World} (hv : Ln.both b xs ys = true) (hm : Ln.msk ms = true) (hn : n ≤ 1048576) (r : Rd w B A n ms) (r1 : Rd w B1 A1 n xs) (r2 : Rd w B2 A2 n ys) :
    Calls Tryz.prog 14 #[.int .i64 b, .slice A n c, .slice A1 n c1, .slice A2 n c2] w (Ret1 (Ln.tab (fun i => if ms.getD i 0 = 1 then xs.getD i 0 else ys.getD i 0) n) true w) := by
  have h := iSelectLanes_any b A n c ms B A1 n c1 xs B1 A2 n c2 ys B2 w hn hn hn r r1 r2
  have e : (Ln.both b xs ys && (Ln.msk ms && ms.length == xs.length)) = true := by rw [hv, hm, r.len, r1.len]; simp
  unfold Ln.select Ln.sel at h
  rw [e, r.len] at h
  exact h
theorem rampC {b x y : Int} {n : Nat} {w : World} (hl : Ln.lanes n = true) (hx : Wd.IsWord b x) (hy : Wd.IsWord b y) :
    Calls Tryz.prog 15 #[.int .i64 b, .int .i64 n, .int .i64 x, .int .i64 y] w (Ret1 (Ln.tab (fun i => Wd.wr b (x + i * y)) n) true w) := by
  have h := iRampLanes_any b n x y w
  unfold Ln.ramp Ln.rampL at h
  rw [hl, decide_eq_true hx, decide_eq_true hy, Int.toNat_natCast] at h
  exact h
theorem countC {A : Option Addr} {n c : Nat} {zs : List Int} {B : Nat} {w : World} (hn : n ≤ 1048576) (hm : Ln.msk zs = true) (h : Rd w B A n zs) :
    Calls Tryz.prog 16 #[.slice A n c] w (RetIB (Ln.cnt zs) true w) := by
  have h := iCountLanes_any A n c zs B w hn h
  unfold Ln.count at h
  rw [hm] at h
  exact h
theorem firstC {A : Option Addr} {n c : Nat} {zs : List Int} {B : Nat} {w : World} (hn : n ≤ 1048576) (hm : Ln.msk zs = true) (h : Rd w B A n zs) {fd : Bool} (hf : decide (Ln.pos zs < n) = fd) :
    Calls Tryz.prog 17 #[.slice A n c] w (RetIB (if fd then (Ln.pos zs : Int) else 0) fd w) := by
  have k := iFirstLane_any A n c zs B w hn h
  unfold Ln.first at k
  rw [hm, h.len, hf] at k
  cases fd
  · exact k
  · exact k
theorem msk_all' {zs : List Int} (h : Ln.msk zs = true) : (zs.all fun z => z == 0 || z == 1) = true := by
  unfold Ln.msk at h; rw [Bool.and_eq_true] at h; exact h.2
theorem msk_cmpF {q b : Int} {xs ys : List Int} {n : Nat} (hl : Ln.lanes n = true) : Ln.msk (Ln.tab (cmpF q b xs ys) n) = true := by
  unfold Ln.msk
  rw [Ln.tab_len, hl, Bool.true_and, List.all_eq_true]
  intro x hx
  unfold Ln.tab at hx
  obtain ⟨i, _, rfl⟩ := List.mem_map.1 hx
  unfold cmpF
  split <;> rfl
set_option maxHeartbeats 40000000 in
set_option maxRecDepth 100000 in
theorem law_lanes (a0 : Option Addr) (len0 cap0 : Nat) (z0 : List Int) (a1 : Option Addr) (len1 cap1 : Nat) (z1 : List Int) (w : World) (r0 : IsRow .u8 w a0 len0 cap0 z0) (r1 : IsRow .u8 w a1 len1 cap1 z1) (hErr : ErrT w) :
    Calls Tryz.prog 3 #[.slice a0 len0 cap0, .slice a1 len1 cap1] w fun e w' => e = .returned (.bool true) ∧ Below w.heap.size w w' := by
  have cl := r8long_any a0 a1 len0 cap0 len1 cap1 w r0.len' r1.len'
  by_cases hlong : 48 < len0 ∨ 48 < len1
  · rw [decide_eq_true hlong] at cl
    have CL := Lib.hid cl
    clear cl hlong r0 r1 hErr
    go_enter Tryz.func3, Tryz.ntmps3
    go_wp2_with fail
    refine CL.out.mono ?_
    rintro e w' ⟨rfl, rfl⟩
    go_wp2_with fail
    go_ret
    exact ⟨rfl, Below.refl _ _⟩
  · rw [decide_eq_false hlong] at cl
    have CL := Lib.hid cl
    have R0 := Lib.hid (fun (W : World) (hb : Below w.heap.size w W) => r0.below hb r0.block)
    have R1 := Lib.hid (fun (W : World) (hb : Below w.heap.size w W) => r1.below hb r1.block)
    have HE := Lib.hid (fun (W : World) (hb : Below w.heap.size w W) => hErr.below hb hErr.lt)
    clear cl hlong r0 r1 hErr
    go_enter Tryz.func3, Tryz.ntmps3
    go_wp2_with fail
    refine CL.out.mono ?_
    rintro e w' ⟨rfl, rfl⟩
    go_wp2_with fail
    refine (r8bits_any _ _ _ z0 _ (R0.out _ (Below.refl _ _))).mono ?_
    rintro e w1 ⟨b, rfl, hb, hb1⟩
    have HBits := Lib.hid hb
    have HB1 := Lib.hid hb1; clear hb hb1
    go_wp2_with fail
    refine (r8lanes_any _ _ _ z1 _ (R1.out _ HB1.out)).mono ?_
    rintro e w2 ⟨n, rfl, hl, hb⟩
    have HL := Lib.hid hl
    have hn : n ≤ 16 := by have := Ln.lanes_cases hl; omega
    have hn0 : 0 < n := by have := Ln.lanes_cases hl; omega
    have HB2 := Lib.hid (HB1.out.trans (hb.mono HB1.out.size)); clear hl hb
    go_wp2_with fail
    refine (r8vec_any _ _ _ _ _ z0 _ HBits.out HL.out (R0.out _ HB2.out)).mono ?_
    rintro e w3 ⟨ga, ca, xs, rfl, hoa, hnc, hva, hb⟩
    have HA := Lib.hid hoa.rd
    have HVA := Lib.hid hva
    have HLA := Lib.hid hoa.len
    have HB3 := Lib.hid (HB2.out.trans (hb.mono HB2.out.size)); clear hoa hva hb hnc
    go_wp2_with fail
    refine (r8vec_any _ _ _ _ _ z1 _ HBits.out HL.out (R1.out _ HB3.out)).mono ?_
    rintro e w4 ⟨gb, cb, ys, rfl, hob, hnc, hvb, hb⟩
    have HY := Lib.hid hob.rd
    have HVB := Lib.hid hvb
    have HLB := Lib.hid hob.len
    have HA4 := Lib.hid (HA.out.below hb)
    have HB4 := Lib.hid (HB3.out.trans (hb.mono HB3.out.size)); clear hob hvb hb hnc HA
    have HBO := Lib.hid (Ln.both_of HVA.out HVB.out (HLA.out.trans HLB.out.symm))
    go_wp2_with fail
    refine (r8mask_any _ _ _ _ z1 _ HL.out (R1.out _ HB4.out)).mono ?_
    rintro e w5 ⟨gm, cm, ms, rfl, hom, hnc, hvm, hb⟩
    have HM5 := Lib.hid hom.rd
    have HVM := Lib.hid hvm
    have HLM := Lib.hid hom.len
    have HA5 := Lib.hid (HA4.out.below hb)
    have HY5 := Lib.hid (HY.out.below hb)
    have HB5 := Lib.hid (HB4.out.trans (hb.mono HB4.out.size)); clear hom hvm hb hnc HA4 HY
    go_wp2_with fail
    refine (r8at_any 20 18 _ _ _ z1 _ (by omega) (by omega) (by omega) (by omega) (R1.out _ HB5.out)).mono ?_
    rintro e w6 ⟨op, rfl, h0, h1, rfl⟩
    have HOP := Lib.hid (show 0 ≤ op ∧ op ≤ 17 by omega)
    have HIS := Lib.hid (show Ln.isOp op = true from decide_eq_true HOP.out)
    clear h0 h1
    go_wp2_with fail
    refine (r8at_any 21 6 _ _ _ z1 _ (by omega) (by omega) (by omega) (by omega) (R1.out _ HB5.out)).mono ?_
    rintro e w6 ⟨q, rfl, h0, h1, rfl⟩
    have HQ := Lib.hid (show 0 ≤ q ∧ q ≤ 5 by omega)
    have HIQ := Lib.hid (show Ln.isCmp q = true from decide_eq_true HQ.out)
    clear h0 h1
    go_wp2_with fail
    refine (laneC HIS.out HBO.out (by omega) HA5.out HY5.out (HE.out _ HB5.out)).mono ?_
    rintro e w6 ⟨AO, nO, cO, rfl, ho, _, hb⟩
    obtain rfl : n = nO := by have := ho.len; rw [Ln.tab_len] at this; exact this
    obtain ⟨gO, oO, rfl, _, _⟩ := ho.rd.at_ hn0
    have HO6 := Lib.hid ho.rd
    have HA6 := Lib.hid (HA5.out.below hb)
    have HY6 := Lib.hid (HY5.out.below hb)
    have HM6 := Lib.hid (HM5.out.below hb)
    have HB6 := Lib.hid (HB5.out.trans (hb.mono HB5.out.size)); clear ho hb HA5 HY5 HM5
    go_wp2_with fail
    refine (maskC HIS.out HBO.out HVM.out (by omega) HM6.out HA6.out HY6.out (HE.out _ HB6.out)).mono ?_
    rintro e w7 ⟨AK, nK, cK, rfl, ho, _, hb⟩
    obtain rfl : n = nK := by have := ho.len; rw [Ln.tab_len] at this; exact this
    obtain ⟨gK, oK, rfl, _, _⟩ := ho.rd.at_ hn0
    have HK7 := Lib.hid ho.rd
    have HO7 := Lib.hid (HO6.out.below hb)
    have HA7 := Lib.hid (HA6.out.below hb)
    have HY7 := Lib.hid (HY6.out.below hb)
    have HM7 := Lib.hid (HM6.out.below hb)
    have HB7 := Lib.hid (HB6.out.trans (hb.mono HB6.out.size)); clear ho hb HA6 HY6 HM6 HO6
    go_wp2_with fail
    refine (cmpC HIQ.out HBO.out (by omega) HA7.out HY7.out).mono ?_
    rintro e w8 ⟨AT, nT, cT, rfl, ho, _, hb⟩
    obtain rfl : n = nT := by have := ho.len; rw [Ln.tab_len] at this; exact this
    obtain ⟨gT, oT, rfl, _, _⟩ := ho.rd.at_ hn0
    have HMT := Lib.hid (msk_cmpF (q := q) (b := b) (xs := xs) (ys := ys) HL.out)
    obtain ⟨ts, hts⟩ : ∃ z, z = Ln.tab (cmpF q b xs ys) n := ⟨_, rfl⟩
    rw [← hts] at ho HMT
    have HTS := Lib.hid hts
    have HT8 := Lib.hid ho.rd
    have HK8 := Lib.hid (HK7.out.below hb)
    have HO8 := Lib.hid (HO7.out.below hb)
    have HA8 := Lib.hid (HA7.out.below hb)
    have HY8 := Lib.hid (HY7.out.below hb)
    have HM8 := Lib.hid (HM7.out.below hb)
    have HB8 := Lib.hid (HB7.out.trans (hb.mono HB7.out.size)); clear ho hb HA7 HY7 HM7 HO7 HK7 hts
    go_wp2_with fail
    refine (selC HBO.out HMT.out (by omega) HT8.out HA8.out HY8.out).mono ?_
    rintro e w9 ⟨AC, nC, cC, rfl, ho, _, hb⟩
    obtain rfl : n = nC := by have := ho.len; rw [Ln.tab_len] at this; exact this
    obtain ⟨gC, oC, rfl, _, _⟩ := ho.rd.at_ hn0
    have HC9 := Lib.hid ho.rd
    have HT9 := Lib.hid (HT8.out.below hb)
    have HK9 := Lib.hid (HK8.out.below hb)
    have HO9 := Lib.hid (HO8.out.below hb)
    have HA9 := Lib.hid (HA8.out.below hb)
    have HY9 := Lib.hid (HY8.out.below hb)
    have HM9 := Lib.hid (HM8.out.below hb)
    have HB9 := Lib.hid (HB8.out.trans (hb.mono HB8.out.size)); clear ho hb HA8 HY8 HM8 HO8 HK8 HT8
    have q0 := HA9.out.cellB (Below.refl _ _) hn0
    have q1 := HY9.out.cellB (Below.refl _ _) hn0
    have hx0 := Ln.vec_word HVA.out (k := 0) (by rw [HLA.out]; exact hn0)
    have hy0 := Ln.vec_word HVB.out (k := 0) (by rw [HLB.out]; exact hn0)
    rw [Nat.add_zero] at q0 q1
    obtain ⟨x0, hx0e⟩ : ∃ z, z = xs.getD 0 0 := ⟨_, rfl⟩
    obtain ⟨y0, hy0e⟩ : ∃ z, z = ys.getD 0 0 := ⟨_, rfl⟩
    rw [← hx0e] at q0 hx0
    rw [← hy0e] at q1 hy0
    have HX0 := Lib.hid (And.intro hx0 hx0e)
    have HY0 := Lib.hid (And.intro hy0 hy0e)
    have CRm := Lib.hid (fun (W : World) => rampC (n := n) (w := W) HL.out HX0.out.1 HY0.out.1)
    have L0 := Lib.hid (show ga < w9.heap.size from World.block_lt_of_cell? w9 _ q0)
    have L1 := Lib.hid (show gb < w9.heap.size from World.block_lt_of_cell? w9 _ q1)
    have Q0 := Lib.hid q0
    have Q1 := Lib.hid q1
    have i0 : (0 : Int) < (n : Int) := by omega
    clear hx0 hy0 hx0e hy0e
    go_wp2
    go_region_held3 (fun w' => w'.cell? ⟨ga, 0, none⟩ = some (.int .i64 x0) ∧ w'.cell? ⟨gb, 0, none⟩ = some (.int .i64 y0)) (first | go_keep | exact ⟨(HB10.out.cell (p := ⟨ga, 0, none⟩) L0.out).trans Q0.out, (HB10.out.cell (p := ⟨gb, 0, none⟩) L1.out).trans Q1.out⟩)
      ((go_at_call 15; (with_reducible refine (CRm.out _).mono ?_); rintro e w10 ⟨AR, nR, cR, rfl, hoR, _, hb10⟩; have HB10 : Hid (Below w9.heap.size w9 w10) := Lib.hid (by first | exact hb10 | exact (Below.refl _ w9).drew.trans hb10); have HOR := Lib.hid (show Rd w10 w10.heap.size AR nR _ from hoR.rd)))
    obtain rfl : n = nR := by have := HOR.out.len; rw [Ln.tab_len] at this; exact this
    obtain ⟨gR, oR, rfl, _, _⟩ := HOR.out.at_ hn0
    have HBX := Lib.hid (HB9.out.trans (HB10.out.mono HB9.out.size))
    have HC10 := Lib.hid (HC9.out.below HB10.out)
    have HT10 := Lib.hid (HT9.out.below HB10.out)
    have HK10 := Lib.hid (HK9.out.below HB10.out)
    have HO10 := Lib.hid (HO9.out.below HB10.out)
    have HA10 := Lib.hid (HA9.out.below HB10.out)
    have HY10 := Lib.hid (HY9.out.below HB10.out)
    have HM10 := Lib.hid (HM9.out.below HB10.out)
    clear q0 q1 HC9 HT9 HK9 HO9 HA9 HY9 HM9 CRm L0 L1 Q0 Q1
    go_wp2_with fail
    refine (countC (by omega) HMT.out HT10.out).mono ?_
    rintro e w11 ⟨rfl, hb⟩
    have HT11 := Lib.hid (HT10.out.below hb)
    have HB11 : Hid (Below w10.heap.size w10 w11) := Lib.hid hb
    clear hb
    obtain ⟨C, hC⟩ : ∃ C, C = Ln.cnt ts := ⟨_, rfl⟩
    rw [← hC]
    have HCC := Lib.hid hC
    clear hC
    obtain ⟨p, hp⟩ : ∃ p, p = Ln.pos ts := ⟨_, rfl⟩
    have HP := Lib.hid hp
    clear hp
    by_cases hf : p < n
    · have hd : decide (Ln.pos ts < n) = true := decide_eq_true (by rw [← HP.out]; exact hf)
      have hCp : 0 < C := by
        have h1 : Ln.cnt ts ≠ 0 := fun h => (Ln.cnt_zero HMT.out).1 h (by rw [HT11.out.len, ← HP.out]; exact hf)
        have h2 := Ln.cnt_bd ts (msk_all' HMT.out) ts.length (Nat.le_refl _)
        rw [List.take_length, ← HCC.out] at h2
        rw [← HCC.out] at h1
        omega
      have i9 : ¬ (n : Int) ≤ (p : Int) := by omega
      go_wp2_with fail
      refine (firstC (by omega) HMT.out HT11.out hd).mono ?_
      rw [← HP.out]
      rintro e w12 ⟨rfl, hb⟩
      have HBY : Hid (Below w10.heap.size w10 w12) := Lib.hid (HB11.out.trans (hb.mono HB11.out.size))
      have HF := Lib.hid hf
      clear hb hd hf
      have hcp := HT10.out.cellB HBY.out HF.out
      rw [HP.out, Ln.pos_at (by rw [HT11.out.len, ← HP.out]; exact HF.out), ← HP.out] at hcp
      have p0 : ¬ (p : Int) < 0 := by omega
      have p1 : (0 : Int) ≤ (p : Int) := by omega
      have p2 : (p : Int) < (n : Int) := by have := HF.out; omega
      have p5 : decide (n ≤ p) = false := decide_eq_false (by omega)
      have p6 : decide ((p : Int) < 0) = false := decide_eq_false p0
      go_wp2
      go_loopw [27, 28] (fun s i wr => ∃ k : Nat, k ≤ n ∧ i = .int .i64 k ∧ s = .int .i64 (Ln.cnt (ts.take k)) ∧ Below w10.heap.size w10 wr) (fun _ i _ => n - (intOf i).toNat)
      case atStart => exact ⟨0, Nat.zero_le _, rfl, rfl, by first | exact HBY.out | exact below_drewN HBY.out _ | exact HBY.out.drew⟩
      case round =>
        obtain ⟨k, hk, rfl, rfl, hbw⟩ := hrel
        have HBW : Hid (Below w10.heap.size w10 wr) := Lib.hid hbw
        clear hbw hcp
        by_cases hlt : k < n
        · have et : ts.getD k 0 = if Wd.test q b (xs.getD k 0) (ys.getD k 0) then 1 else 0 := by rw [HTS.out, Ln.tab_getD _ _ _ hlt]; rfl
          have p4 : Wd.test q b (xs.getD k 0) (ys.getD k 0) = true → p ≤ k := fun h => by rw [HP.out]; exact Ln.pos_lt_of (by rw [et, h]; rfl)
          have fO : ∀ W, Below w10.heap.size w10 W → W.cell? ⟨gO, oO + k, none⟩ = some (.int .i64 (Wd.doOp op b (xs.getD k 0) (ys.getD k 0))) := fun W hb => by have h := HO10.out.cellB hb hlt; rw [Ln.tab_getD _ _ _ hlt] at h; exact h
          have fK : ∀ W, Below w10.heap.size w10 W → W.cell? ⟨gK, oK + k, none⟩ = some (.int .i64 (if ms.getD k 0 = 1 then Wd.doOp op b (xs.getD k 0) (ys.getD k 0) else ys.getD k 0)) := fun W hb => by have h := HK10.out.cellB hb hlt; rw [Ln.tab_getD _ _ _ hlt] at h; exact h
          have fT : ∀ W, Below w10.heap.size w10 W → W.cell? ⟨gT, oT + k, none⟩ = some (.int .i64 (ts.getD k 0)) := fun W hb => HT10.out.cellB hb hlt
          have fC : ∀ W, Below w10.heap.size w10 W → W.cell? ⟨gC, oC + k, none⟩ = some (.int .i64 (if ts.getD k 0 = 1 then xs.getD k 0 else ys.getD k 0)) := fun W hb => by have h := HC10.out.cellB hb hlt; rw [Ln.tab_getD _ _ _ hlt] at h; exact h
          have fR : ∀ W, Below w10.heap.size w10 W → W.cell? ⟨gR, oR + k, none⟩ = some (.int .i64 (Wd.wr b (x0 + (k : Int) * y0))) := fun W hb => by have h := HOR.out.cellB hb hlt; rw [Ln.tab_getD _ _ _ hlt] at h; exact h
          have fM : ∀ W, Below w10.heap.size w10 W → W.cell? ⟨gm, k, none⟩ = some (.int .i64 (ms.getD k 0)) := fun W hb => by have h := HM10.out.cellB hb hlt; rw [Nat.zero_add] at h; exact h
          have fA : ∀ W, Below w10.heap.size w10 W → W.cell? ⟨ga, k, none⟩ = some (.int .i64 (xs.getD k 0)) := fun W hb => by have h := HA10.out.cellB hb hlt; rw [Nat.zero_add] at h; exact h
          have fB : ∀ W, Below w10.heap.size w10 W → W.cell? ⟨gb, k, none⟩ = some (.int .i64 (ys.getD k 0)) := fun W hb => by have h := HY10.out.cellB hb hlt; rw [Nat.zero_add] at h; exact h
          have gA : ∀ W, Below w10.heap.size w10 W → W.cell? ⟨ga, 0, none⟩ = some (.int .i64 x0) := fun W hb => by have h := HA10.out.cellB hb hn0; rw [Nat.zero_add, ← HX0.out.2] at h; exact h
          have gB : ∀ W, Below w10.heap.size w10 W → W.cell? ⟨gb, 0, none⟩ = some (.int .i64 y0) := fun W hb => by have h := HY10.out.cellB hb hn0; rw [Nat.zero_add, ← HY0.out.2] at h; exact h
          have hxw := Ln.vec_word HVA.out (k := k) (by rw [HLA.out]; exact hlt)
          have hyw := Ln.vec_word HVB.out (k := k) (by rw [HLB.out]; exact hlt)
          have hmb := Ln.msk_bit HVM.out (k := k) (by rw [HLM.out]; exact hlt)
          have hS := Ln.cnt_bd ts (msk_all' HMT.out) k (by rw [HT11.out.len]; omega)
          have hS1 := Ln.cnt_snoc ts k (by rw [HT11.out.len]; exact hlt)
          obtain ⟨x, hx⟩ : ∃ z, z = xs.getD k 0 := ⟨_, rfl⟩
          obtain ⟨y, hy⟩ : ∃ z, z = ys.getD k 0 := ⟨_, rfl⟩
          obtain ⟨m, hm⟩ : ∃ z, z = ms.getD k 0 := ⟨_, rfl⟩
          obtain ⟨S, hSe⟩ : ∃ z, z = Ln.cnt (ts.take k) := ⟨_, rfl⟩
          rw [← hx, ← hy] at et p4 fO fK fC
          rw [← hm] at fK fM hmb
          rw [← hx] at fA hxw
          rw [← hy] at fB hyw
          rw [← hSe] at hS hS1 ⊢
          obtain ⟨t, ht⟩ : ∃ z, z = ts.getD k 0 := ⟨_, rfl⟩
          rw [← ht] at et fT fC hS1
          have CD := Lib.hid (fun (W : World) (hb : Below w10.heap.size w10 W) => doOp_yes op b x y W HOP.out.1 HOP.out.2 hxw hyw (HE.out W (HBX.out.trans (hb.mono HBX.out.size))))
          have CT := Lib.hid (fun (W : World) (hb : Below w10.heap.size w10 W) => (testCmp_yes q b x y W HQ.out.1 HQ.out.2 hxw hyw).mono (R' := fun e w' => e = .returned (.tuple #[.bool (Wd.test q b x y), .bool true]) ∧ Below W.heap.size W w') fun e w' h => ⟨h.1, h.2 ▸ Below.refl _ _⟩)
          have hxb : 0 ≤ x0 ∧ x0 < 65536 := ⟨HX0.out.1.2.1, Int.lt_of_lt_of_le HX0.out.1.2.2 (by rcases Wd.bits_cases HX0.out.1.1 with ⟨_, h, _⟩ | ⟨_, h, _⟩ | ⟨_, h, _⟩ <;> omega)⟩
          have hyb : 0 ≤ y0 ∧ y0 < 65536 := ⟨HY0.out.1.2.1, Int.lt_of_lt_of_le HY0.out.1.2.2 (by rcases Wd.bits_cases HY0.out.1.1 with ⟨_, h, _⟩ | ⟨_, h, _⟩ | ⟨_, h, _⟩ <;> omega)⟩
          have hky0 : 0 ≤ (k : Int) * y0 := Int.mul_nonneg (by omega) hyb.1
          have hky1 : (k : Int) * y0 ≤ 16 * 65536 := Int.mul_le_mul (by omega) (by omega) hyb.1 (by omega)
          have s2 : IntKind.i64.wrap ((k : Int) * y0) = (k : Int) * y0 := IntWalk.i64_in _ (by omega)
          have s3 : IntKind.i64.wrap (x0 + (k : Int) * y0) = x0 + (k : Int) * y0 := IntWalk.i64_in _ (by omega)
          have CW := Lib.hid (fun (W : World) (hb : Below w10.heap.size w10 W) => (wordOf_yes b (x0 + (k : Int) * y0) W HBits.out (by omega) (by omega)).mono (R' := fun e w' => e = .returned (.tuple #[.int .i64 (Wd.wr b (x0 + (k : Int) * y0)), .bool true]) ∧ Below W.heap.size W w') fun e w' h => ⟨h.1, h.2 ▸ Below.refl _ _⟩)
          obtain ⟨r, hr⟩ : ∃ z, z = Wd.doOp op b x y := ⟨_, rfl⟩
          obtain ⟨tb, htb⟩ : ∃ z, z = Wd.test q b x y := ⟨_, rfl⟩
          obtain ⟨s, hs⟩ : ∃ z, z = Wd.wr b (x0 + (k : Int) * y0) := ⟨_, rfl⟩
          rw [← hr] at CD fO fK
          rw [← htb] at CT et p4
          rw [← hs] at CW fR
          obtain ⟨kp, hkp⟩ : ∃ z, z = (if m = 1 then r else y) := ⟨_, rfl⟩
          obtain ⟨ch, hch⟩ : ∃ z, z = (if t = 1 then x else y) := ⟨_, rfl⟩
          rw [← hkp] at fK
          rw [← hch] at fC
          have FA := Lib.hid fA
          have FB := Lib.hid fB
          have GA := Lib.hid gA
          have GB := Lib.hid gB
          have FALL := Lib.hid (fun (W : World) (hb : Below w10.heap.size w10 W) => And.intro (fO W hb) (And.intro (fK W hb) (And.intro (fT W hb) (And.intro (fC W hb) (And.intro (fR W hb) (And.intro (fM W hb) (And.intro (fA W hb) (fB W hb))))))))
          have FACT := Lib.hid (And.intro hmb (And.intro et (And.intro hkp (And.intro hch (And.intro p4 (And.intro hS hS1))))))
          have i1 : (k : Int) < (n : Int) := by omega
          have i2 : (0 : Int) ≤ (k : Int) := by omega
          have i0 : (0 : Int) < (n : Int) := by omega
          clear fA fB gA gB fO fK fT fC fR fM hmb et hkp hch p4 hS hS1 hx hy hm hSe ht hr htb hs hxw hyw hxb hyb hky0 hky1
          have CDp := Lib.hid (fun (p : BelBy wr) => calls_bel (CD.out p.W (HBW.out.trans (p.h.mono HBW.out.size))))
          have d1 := BelBy.cell (FA.out wr HBW.out)
          have d2 := BelBy.cell (FB.out wr HBW.out)
          go_wp2
          refine wp_region_quiet_bel (by kernel_rfl) (by kernel_rfl) ?_
          repeat (go_big_quiet_step (first | (go_at_call 18; exact CDp.out _)))
          refine wpQuiet_nil ?_
          rintro wA ⟨⟨_, hbo⟩, rfl⟩
          have HBA := Lib.hid (HBW.out.trans (hbo.mono HBW.out.size))
          clear hbo d1 d2 CDp
          have CTp := Lib.hid (fun (p : BelBy wA) => calls_bel (CT.out p.W (HBA.out.trans (p.h.mono HBA.out.size))))
          have d1 := BelBy.cell (FA.out wA HBA.out)
          have d2 := BelBy.cell (FB.out wA HBA.out)
          go_wp2
          refine wp_region_quiet_bel (by kernel_rfl) (by kernel_rfl) ?_
          repeat (go_big_quiet_step (first | (go_at_call 19; exact CTp.out _)))
          refine wpQuiet_nil ?_
          rintro wB ⟨⟨_, hbo⟩, rfl⟩
          have HBB := Lib.hid (HBA.out.trans (hbo.mono HBA.out.size))
          clear hbo d1 d2 CTp
          have CWp := Lib.hid (fun (p : BelBy wB) => calls_bel (CW.out p.W (HBB.out.trans (p.h.mono HBB.out.size))))
          have d1 := BelBy.cell (GA.out wB HBB.out)
          have d2 := BelBy.cell (GB.out wB HBB.out)
          go_wp2
          refine wp_region_quiet_bel (by kernel_rfl) (by kernel_rfl) ?_
          repeat (go_big_quiet_step (first | (go_at_call 20; exact CWp.out _)))
          refine wpQuiet_nil ?_
          rintro wC ⟨⟨_, hbo⟩, rfl⟩
          have HBC := Lib.hid (HBB.out.trans (hbo.mono HBB.out.size))
          clear hbo d1 d2 CWp
          obtain ⟨cO', cK', cT', cC', cR', cM', cA', cB'⟩ := FALL.out wC HBC.out
          obtain ⟨hmb, et, hkp, hch, p4, hS, hS1⟩ := FACT.out
          have HEND := Lib.hid hS1
          clear s2 s3 CD CT CW FALL FA FB GA GB FACT hS1
          rcases hmb with rfl | rfl
          · skip
            obtain rfl : y = kp := by rw [hkp]; rfl
            cases tb
            · as_aux_lemma =>
              obtain rfl : t = 0 := et
              obtain rfl : y = ch := by rw [hch]; rfl
              have s4 : IntKind.i64.wrap S = S := IntWalk.i64_in _ (by omega)
              clear hkp hch p4 hS
              go_wp2
              have b1 := BelBy.cell cM'
              have b2 := BelBy.cell cK'
              have b3 := BelBy.cell cC'
              have b4 := BelBy.cell cT'
              have b5 := BelBy.cell cA'
              have b6 := BelBy.cell cB'
              refine wp_region_quiet_bel (by kernel_rfl) (by kernel_rfl) ?_
              try dsimp only [List.append]
              repeat (go_big_quiet_step (fail))
              refine wpQuiet_nil ?_
              rintro wD ⟨⟨_, hbo⟩, rfl⟩
              have HBD := Lib.hid (HBC.out.trans (hbo.mono HBC.out.size))
              clear hbo b1 b2 b3 b4 b5 b6 cO' cK' cT' cC' cR' cM' cA' cB'
              go_wp2
              go_roundw
              case rel => first | exact ⟨k + 1, by omega, by go_num, by rw [HEND.out, Int.add_zero], (by first | exact HBD.out | exact below_drewN HBD.out _ | exact HBD.out.drew)⟩ | ((repeat apply Exists.intro); exact ⟨⟨k + 1, by omega, by go_num, by rw [HEND.out, Int.add_zero], (by first | exact HBD.out | exact below_drewN HBD.out _ | exact HBD.out.drew)⟩, rfl⟩)
              case measure => simp [intOf]; omega
            · as_aux_lemma =>
              obtain rfl : t = 1 := et
              obtain rfl : x = ch := by rw [hch]; rfl
              have s4 : IntKind.i64.wrap (S + 1) = S + 1 := IntWalk.i64_in _ (by omega)
              have p3 : ¬ (k : Int) < (p : Int) := by have := p4 rfl; omega
              clear hkp hch p4 hS
              go_wp2
              have b1 := BelBy.cell cM'
              have b2 := BelBy.cell cK'
              have b3 := BelBy.cell cC'
              have b4 := BelBy.cell cT'
              have b5 := BelBy.cell cA'
              have b6 := BelBy.cell cB'
              refine wp_region_quiet_bel (by kernel_rfl) (by kernel_rfl) ?_
              try dsimp only [List.append]
              repeat (go_big_quiet_step (fail))
              refine wpQuiet_nil ?_
              rintro wD ⟨⟨_, hbo⟩, rfl⟩
              have HBD := Lib.hid (HBC.out.trans (hbo.mono HBC.out.size))
              clear hbo b1 b2 b3 b4 b5 b6 cO' cK' cT' cC' cR' cM' cA' cB'
              go_wp2
              go_roundw
              case rel => first | exact ⟨k + 1, by omega, by go_num, by rw [HEND.out], (by first | exact HBD.out | exact below_drewN HBD.out _ | exact HBD.out.drew)⟩ | ((repeat apply Exists.intro); exact ⟨⟨k + 1, by omega, by go_num, by rw [HEND.out], (by first | exact HBD.out | exact below_drewN HBD.out _ | exact HBD.out.drew)⟩, rfl⟩)
              case measure => simp [intOf]; omega
          · skip
            obtain rfl : r = kp := by rw [hkp]; rfl
            cases tb
            · as_aux_lemma =>
              obtain rfl : t = 0 := et
              obtain rfl : y = ch := by rw [hch]; rfl
              have s4 : IntKind.i64.wrap S = S := IntWalk.i64_in _ (by omega)
              clear hkp hch p4 hS
              go_wp2
              have b1 := BelBy.cell cM'
              have b2 := BelBy.cell cK'
              have b3 := BelBy.cell cC'
              have b4 := BelBy.cell cT'
              have b5 := BelBy.cell cA'
              have b6 := BelBy.cell cB'
              refine wp_region_quiet_bel (by kernel_rfl) (by kernel_rfl) ?_
              try dsimp only [List.append]
              repeat (go_big_quiet_step (fail))
              refine wpQuiet_nil ?_
              rintro wD ⟨⟨_, hbo⟩, rfl⟩
              have HBD := Lib.hid (HBC.out.trans (hbo.mono HBC.out.size))
              clear hbo b1 b2 b3 b4 b5 b6 cO' cK' cT' cC' cR' cM' cA' cB'
              go_wp2
              go_roundw
              case rel => first | exact ⟨k + 1, by omega, by go_num, by rw [HEND.out, Int.add_zero], (by first | exact HBD.out | exact below_drewN HBD.out _ | exact HBD.out.drew)⟩ | ((repeat apply Exists.intro); exact ⟨⟨k + 1, by omega, by go_num, by rw [HEND.out, Int.add_zero], (by first | exact HBD.out | exact below_drewN HBD.out _ | exact HBD.out.drew)⟩, rfl⟩)
              case measure => simp [intOf]; omega
            · as_aux_lemma =>
              obtain rfl : t = 1 := et
              obtain rfl : x = ch := by rw [hch]; rfl
              have s4 : IntKind.i64.wrap (S + 1) = S + 1 := IntWalk.i64_in _ (by omega)
              have p3 : ¬ (k : Int) < (p : Int) := by have := p4 rfl; omega
              clear hkp hch p4 hS
              go_wp2
              have b1 := BelBy.cell cM'
              have b2 := BelBy.cell cK'
              have b3 := BelBy.cell cC'
              have b4 := BelBy.cell cT'
              have b5 := BelBy.cell cA'
              have b6 := BelBy.cell cB'
              refine wp_region_quiet_bel (by kernel_rfl) (by kernel_rfl) ?_
              try dsimp only [List.append]
              repeat (go_big_quiet_step (fail))
              refine wpQuiet_nil ?_
              rintro wD ⟨⟨_, hbo⟩, rfl⟩
              have HBD := Lib.hid (HBC.out.trans (hbo.mono HBC.out.size))
              clear hbo b1 b2 b3 b4 b5 b6 cO' cK' cT' cC' cR' cM' cA' cB'
              go_wp2
              go_roundw
              case rel => first | exact ⟨k + 1, by omega, by go_num, by rw [HEND.out], (by first | exact HBD.out | exact below_drewN HBD.out _ | exact HBD.out.drew)⟩ | ((repeat apply Exists.intro); exact ⟨⟨k + 1, by omega, by go_num, by rw [HEND.out], (by first | exact HBD.out | exact below_drewN HBD.out _ | exact HBD.out.drew)⟩, rfl⟩)
              case measure => simp [intOf]; omega
        · have hkn : k = n := by omega
          have es : Ln.cnt (ts.take k) = C := by rw [hkn, ← HT11.out.len, List.take_length]; exact HCC.out.symm
          rw [es]
          have i1 : ¬ (k : Int) < (n : Int) := by omega
          have HEND := Lib.hid (HBX.out.trans (HBW.out.mono HBX.out.size))
          clear es hkn
          go_wp2
          go_ret
          first | exact ⟨rfl, HEND.out⟩ | exact ⟨ret_bool (by simp), HEND.out⟩ | exact ⟨by simp, HEND.out⟩
    · have hd : decide (Ln.pos ts < n) = false := decide_eq_false (by rw [← HP.out]; exact hf)
      obtain rfl : C = 0 := by rw [HCC.out]; exact (Ln.cnt_zero HMT.out).2 (by rw [HT11.out.len, ← HP.out]; exact hf)
      go_wp2_with fail
      refine (firstC (by omega) HMT.out HT11.out hd).mono ?_
      rw [← HP.out]
      rintro e w12 ⟨rfl, hb⟩
      have HBY : Hid (Below w10.heap.size w10 w12) := Lib.hid (HB11.out.trans (hb.mono HB11.out.size))
      have HF := Lib.hid hf
      clear hb hd hf
      have hcp := HT10.out.cellB HBY.out hn0
      rw [Nat.add_zero] at hcp
      have ht0 : ts.getD 0 0 = 0 := by
        rcases Ln.msk_bit HMT.out (k := 0) (by rw [HT11.out.len]; exact hn0) with h | h
        · exact h
        · exact absurd (Nat.lt_of_le_of_lt (by rw [HP.out]; exact Ln.pos_lt_of h) hn0) HF.out
      rw [ht0] at hcp
      have i8 : ¬ (n : Int) ≤ 0 := by omega
      clear ht0
      go_wp2
      all_goals as_aux_lemma =>
        go_loopw [27, 28] (fun s i wr => ∃ k : Nat, k ≤ n ∧ i = .int .i64 k ∧ s = .int .i64 (Ln.cnt (ts.take k)) ∧ Below w10.heap.size w10 wr) (fun _ i _ => n - (intOf i).toNat)
        case atStart => exact ⟨0, Nat.zero_le _, rfl, rfl, by first | exact HBY.out | exact below_drewN HBY.out _ | exact HBY.out.drew⟩
        case round =>
          obtain ⟨k, hk, rfl, rfl, hbw⟩ := hrel
          have HBW : Hid (Below w10.heap.size w10 wr) := Lib.hid hbw
          clear hbw hcp
          by_cases hlt : k < n
          · have et : ts.getD k 0 = if Wd.test q b (xs.getD k 0) (ys.getD k 0) then 1 else 0 := by rw [HTS.out, Ln.tab_getD _ _ _ hlt]; rfl
            have p4 : Wd.test q b (xs.getD k 0) (ys.getD k 0) = true → p ≤ k := fun h => by rw [HP.out]; exact Ln.pos_lt_of (by rw [et, h]; rfl)
            have fO : ∀ W, Below w10.heap.size w10 W → W.cell? ⟨gO, oO + k, none⟩ = some (.int .i64 (Wd.doOp op b (xs.getD k 0) (ys.getD k 0))) := fun W hb => by have h := HO10.out.cellB hb hlt; rw [Ln.tab_getD _ _ _ hlt] at h; exact h
            have fK : ∀ W, Below w10.heap.size w10 W → W.cell? ⟨gK, oK + k, none⟩ = some (.int .i64 (if ms.getD k 0 = 1 then Wd.doOp op b (xs.getD k 0) (ys.getD k 0) else ys.getD k 0)) := fun W hb => by have h := HK10.out.cellB hb hlt; rw [Ln.tab_getD _ _ _ hlt] at h; exact h
            have fT : ∀ W, Below w10.heap.size w10 W → W.cell? ⟨gT, oT + k, none⟩ = some (.int .i64 (ts.getD k 0)) := fun W hb => HT10.out.cellB hb hlt
            have fC : ∀ W, Below w10.heap.size w10 W → W.cell? ⟨gC, oC + k, none⟩ = some (.int .i64 (if ts.getD k 0 = 1 then xs.getD k 0 else ys.getD k 0)) := fun W hb => by have h := HC10.out.cellB hb hlt; rw [Ln.tab_getD _ _ _ hlt] at h; exact h
            have fR : ∀ W, Below w10.heap.size w10 W → W.cell? ⟨gR, oR + k, none⟩ = some (.int .i64 (Wd.wr b (x0 + (k : Int) * y0))) := fun W hb => by have h := HOR.out.cellB hb hlt; rw [Ln.tab_getD _ _ _ hlt] at h; exact h
            have fM : ∀ W, Below w10.heap.size w10 W → W.cell? ⟨gm, k, none⟩ = some (.int .i64 (ms.getD k 0)) := fun W hb => by have h := HM10.out.cellB hb hlt; rw [Nat.zero_add] at h; exact h
            have fA : ∀ W, Below w10.heap.size w10 W → W.cell? ⟨ga, k, none⟩ = some (.int .i64 (xs.getD k 0)) := fun W hb => by have h := HA10.out.cellB hb hlt; rw [Nat.zero_add] at h; exact h
            have fB : ∀ W, Below w10.heap.size w10 W → W.cell? ⟨gb, k, none⟩ = some (.int .i64 (ys.getD k 0)) := fun W hb => by have h := HY10.out.cellB hb hlt; rw [Nat.zero_add] at h; exact h
            have gA : ∀ W, Below w10.heap.size w10 W → W.cell? ⟨ga, 0, none⟩ = some (.int .i64 x0) := fun W hb => by have h := HA10.out.cellB hb hn0; rw [Nat.zero_add, ← HX0.out.2] at h; exact h
            have gB : ∀ W, Below w10.heap.size w10 W → W.cell? ⟨gb, 0, none⟩ = some (.int .i64 y0) := fun W hb => by have h := HY10.out.cellB hb hn0; rw [Nat.zero_add, ← HY0.out.2] at h; exact h
            have hxw := Ln.vec_word HVA.out (k := k) (by rw [HLA.out]; exact hlt)
            have hyw := Ln.vec_word HVB.out (k := k) (by rw [HLB.out]; exact hlt)
            have hmb := Ln.msk_bit HVM.out (k := k) (by rw [HLM.out]; exact hlt)
            have hS := Ln.cnt_bd ts (msk_all' HMT.out) k (by rw [HT11.out.len]; omega)
            have hS1 := Ln.cnt_snoc ts k (by rw [HT11.out.len]; exact hlt)
            obtain ⟨x, hx⟩ : ∃ z, z = xs.getD k 0 := ⟨_, rfl⟩
            obtain ⟨y, hy⟩ : ∃ z, z = ys.getD k 0 := ⟨_, rfl⟩
            obtain ⟨m, hm⟩ : ∃ z, z = ms.getD k 0 := ⟨_, rfl⟩
            obtain ⟨S, hSe⟩ : ∃ z, z = Ln.cnt (ts.take k) := ⟨_, rfl⟩
            rw [← hx, ← hy] at et p4 fO fK fC
            rw [← hm] at fK fM hmb
            rw [← hx] at fA hxw
            rw [← hy] at fB hyw
            rw [← hSe] at hS hS1 ⊢
            obtain ⟨t, ht⟩ : ∃ z, z = ts.getD k 0 := ⟨_, rfl⟩
            rw [← ht] at et fT fC hS1
            have CD := Lib.hid (fun (W : World) (hb : Below w10.heap.size w10 W) => doOp_yes op b x y W HOP.out.1 HOP.out.2 hxw hyw (HE.out W (HBX.out.trans (hb.mono HBX.out.size))))
            have CT := Lib.hid (fun (W : World) (hb : Below w10.heap.size w10 W) => (testCmp_yes q b x y W HQ.out.1 HQ.out.2 hxw hyw).mono (R' := fun e w' => e = .returned (.tuple #[.bool (Wd.test q b x y), .bool true]) ∧ Below W.heap.size W w') fun e w' h => ⟨h.1, h.2 ▸ Below.refl _ _⟩)
            have hxb : 0 ≤ x0 ∧ x0 < 65536 := ⟨HX0.out.1.2.1, Int.lt_of_lt_of_le HX0.out.1.2.2 (by rcases Wd.bits_cases HX0.out.1.1 with ⟨_, h, _⟩ | ⟨_, h, _⟩ | ⟨_, h, _⟩ <;> omega)⟩
            have hyb : 0 ≤ y0 ∧ y0 < 65536 := ⟨HY0.out.1.2.1, Int.lt_of_lt_of_le HY0.out.1.2.2 (by rcases Wd.bits_cases HY0.out.1.1 with ⟨_, h, _⟩ | ⟨_, h, _⟩ | ⟨_, h, _⟩ <;> omega)⟩
            have hky0 : 0 ≤ (k : Int) * y0 := Int.mul_nonneg (by omega) hyb.1
            have hky1 : (k : Int) * y0 ≤ 16 * 65536 := Int.mul_le_mul (by omega) (by omega) hyb.1 (by omega)
            have s2 : IntKind.i64.wrap ((k : Int) * y0) = (k : Int) * y0 := IntWalk.i64_in _ (by omega)
            have s3 : IntKind.i64.wrap (x0 + (k : Int) * y0) = x0 + (k : Int) * y0 := IntWalk.i64_in _ (by omega)
            have CW := Lib.hid (fun (W : World) (hb : Below w10.heap.size w10 W) => (wordOf_yes b (x0 + (k : Int) * y0) W HBits.out (by omega) (by omega)).mono (R' := fun e w' => e = .returned (.tuple #[.int .i64 (Wd.wr b (x0 + (k : Int) * y0)), .bool true]) ∧ Below W.heap.size W w') fun e w' h => ⟨h.1, h.2 ▸ Below.refl _ _⟩)
            obtain ⟨r, hr⟩ : ∃ z, z = Wd.doOp op b x y := ⟨_, rfl⟩
            obtain ⟨tb, htb⟩ : ∃ z, z = Wd.test q b x y := ⟨_, rfl⟩
            obtain ⟨s, hs⟩ : ∃ z, z = Wd.wr b (x0 + (k : Int) * y0) := ⟨_, rfl⟩
            rw [← hr] at CD fO fK
            rw [← htb] at CT et p4
            rw [← hs] at CW fR
            obtain ⟨kp, hkp⟩ : ∃ z, z = (if m = 1 then r else y) := ⟨_, rfl⟩
            obtain ⟨ch, hch⟩ : ∃ z, z = (if t = 1 then x else y) := ⟨_, rfl⟩
            rw [← hkp] at fK
            rw [← hch] at fC
            have FA := Lib.hid fA
            have FB := Lib.hid fB
            have GA := Lib.hid gA
            have GB := Lib.hid gB
            have FALL := Lib.hid (fun (W : World) (hb : Below w10.heap.size w10 W) => And.intro (fO W hb) (And.intro (fK W hb) (And.intro (fT W hb) (And.intro (fC W hb) (And.intro (fR W hb) (And.intro (fM W hb) (And.intro (fA W hb) (fB W hb))))))))
            have FACT := Lib.hid (And.intro hmb (And.intro et (And.intro hkp (And.intro hch (And.intro p4 (And.intro hS hS1))))))
            have i1 : (k : Int) < (n : Int) := by omega
            have i2 : (0 : Int) ≤ (k : Int) := by omega
            have i0 : (0 : Int) < (n : Int) := by omega
            clear fA fB gA gB fO fK fT fC fR fM hmb et hkp hch p4 hS hS1 hx hy hm hSe ht hr htb hs hxw hyw hxb hyb hky0 hky1
            have CDp := Lib.hid (fun (p : BelBy wr) => calls_bel (CD.out p.W (HBW.out.trans (p.h.mono HBW.out.size))))
            have d1 := BelBy.cell (FA.out wr HBW.out)
            have d2 := BelBy.cell (FB.out wr HBW.out)
            go_wp2
            refine wp_region_quiet_bel (by kernel_rfl) (by kernel_rfl) ?_
            repeat (go_big_quiet_step (first | (go_at_call 18; exact CDp.out _)))
            refine wpQuiet_nil ?_
            rintro wA ⟨⟨_, hbo⟩, rfl⟩
            have HBA := Lib.hid (HBW.out.trans (hbo.mono HBW.out.size))
            clear hbo d1 d2 CDp
            have CTp := Lib.hid (fun (p : BelBy wA) => calls_bel (CT.out p.W (HBA.out.trans (p.h.mono HBA.out.size))))
            have d1 := BelBy.cell (FA.out wA HBA.out)
            have d2 := BelBy.cell (FB.out wA HBA.out)
            go_wp2
            refine wp_region_quiet_bel (by kernel_rfl) (by kernel_rfl) ?_
            repeat (go_big_quiet_step (first | (go_at_call 19; exact CTp.out _)))
            refine wpQuiet_nil ?_
            rintro wB ⟨⟨_, hbo⟩, rfl⟩
            have HBB := Lib.hid (HBA.out.trans (hbo.mono HBA.out.size))
            clear hbo d1 d2 CTp
            have CWp := Lib.hid (fun (p : BelBy wB) => calls_bel (CW.out p.W (HBB.out.trans (p.h.mono HBB.out.size))))
            have d1 := BelBy.cell (GA.out wB HBB.out)
            have d2 := BelBy.cell (GB.out wB HBB.out)
            go_wp2
            refine wp_region_quiet_bel (by kernel_rfl) (by kernel_rfl) ?_
            repeat (go_big_quiet_step (first | (go_at_call 20; exact CWp.out _)))
            refine wpQuiet_nil ?_
            rintro wC ⟨⟨_, hbo⟩, rfl⟩
            have HBC := Lib.hid (HBB.out.trans (hbo.mono HBB.out.size))
            clear hbo d1 d2 CWp
            obtain ⟨cO', cK', cT', cC', cR', cM', cA', cB'⟩ := FALL.out wC HBC.out
            obtain ⟨hmb, et, hkp, hch, p4, hS, hS1⟩ := FACT.out
            have HEND := Lib.hid hS1
            clear s2 s3 CD CT CW FALL FA FB GA GB FACT hS1
            rcases hmb with rfl | rfl
            · skip
              obtain rfl : y = kp := by rw [hkp]; rfl
              cases tb
              · as_aux_lemma =>
                obtain rfl : t = 0 := et
                obtain rfl : y = ch := by rw [hch]; rfl
                have s4 : IntKind.i64.wrap S = S := IntWalk.i64_in _ (by omega)
                clear hkp hch p4 hS
                go_wp2
                have b1 := BelBy.cell cM'
                have b2 := BelBy.cell cK'
                have b3 := BelBy.cell cC'
                have b4 := BelBy.cell cT'
                have b5 := BelBy.cell cA'
                have b6 := BelBy.cell cB'
                refine wp_region_quiet_bel (by kernel_rfl) (by kernel_rfl) ?_
                try dsimp only [List.append]
                repeat (go_big_quiet_step (fail))
                refine wpQuiet_nil ?_
                rintro wD ⟨⟨_, hbo⟩, rfl⟩
                have HBD := Lib.hid (HBC.out.trans (hbo.mono HBC.out.size))
                clear hbo b1 b2 b3 b4 b5 b6 cO' cK' cT' cC' cR' cM' cA' cB'
                go_wp2
                go_roundw
                case rel => first | exact ⟨k + 1, by omega, by go_num, by rw [HEND.out, Int.add_zero], (by first | exact HBD.out | exact below_drewN HBD.out _ | exact HBD.out.drew)⟩ | ((repeat apply Exists.intro); exact ⟨⟨k + 1, by omega, by go_num, by rw [HEND.out, Int.add_zero], (by first | exact HBD.out | exact below_drewN HBD.out _ | exact HBD.out.drew)⟩, rfl⟩)
                case measure => simp [intOf]; omega
              · as_aux_lemma =>
                obtain rfl : t = 1 := et
                obtain rfl : x = ch := by rw [hch]; rfl
                have s4 : IntKind.i64.wrap (S + 1) = S + 1 := IntWalk.i64_in _ (by omega)
                exact absurd (Nat.lt_of_le_of_lt (p4 rfl) hlt) HF.out
            · skip
              obtain rfl : r = kp := by rw [hkp]; rfl
              cases tb
              · as_aux_lemma =>
                obtain rfl : t = 0 := et
                obtain rfl : y = ch := by rw [hch]; rfl
                have s4 : IntKind.i64.wrap S = S := IntWalk.i64_in _ (by omega)
                clear hkp hch p4 hS
                go_wp2
                have b1 := BelBy.cell cM'
                have b2 := BelBy.cell cK'
                have b3 := BelBy.cell cC'
                have b4 := BelBy.cell cT'
                have b5 := BelBy.cell cA'
                have b6 := BelBy.cell cB'
                refine wp_region_quiet_bel (by kernel_rfl) (by kernel_rfl) ?_
                try dsimp only [List.append]
                repeat (go_big_quiet_step (fail))
                refine wpQuiet_nil ?_
                rintro wD ⟨⟨_, hbo⟩, rfl⟩
                have HBD := Lib.hid (HBC.out.trans (hbo.mono HBC.out.size))
                clear hbo b1 b2 b3 b4 b5 b6 cO' cK' cT' cC' cR' cM' cA' cB'
                go_wp2
                go_roundw
                case rel => first | exact ⟨k + 1, by omega, by go_num, by rw [HEND.out, Int.add_zero], (by first | exact HBD.out | exact below_drewN HBD.out _ | exact HBD.out.drew)⟩ | ((repeat apply Exists.intro); exact ⟨⟨k + 1, by omega, by go_num, by rw [HEND.out, Int.add_zero], (by first | exact HBD.out | exact below_drewN HBD.out _ | exact HBD.out.drew)⟩, rfl⟩)
                case measure => simp [intOf]; omega
              · as_aux_lemma =>
                obtain rfl : t = 1 := et
                obtain rfl : x = ch := by rw [hch]; rfl
                have s4 : IntKind.i64.wrap (S + 1) = S + 1 := IntWalk.i64_in _ (by omega)
                exact absurd (Nat.lt_of_le_of_lt (p4 rfl) hlt) HF.out
          · have hkn : k = n := by omega
            have es : Ln.cnt (ts.take k) = 0 := by rw [hkn, ← HT11.out.len, List.take_length]; exact HCC.out.symm
            rw [es]
            have i1 : ¬ (k : Int) < (n : Int) := by omega
            have HEND := Lib.hid (HBX.out.trans (HBW.out.mono HBX.out.size))
            clear es hkn
            go_wp2
            go_ret
            first | exact ⟨rfl, HEND.out⟩ | exact ⟨ret_bool (by simp), HEND.out⟩ | exact ⟨by simp, HEND.out⟩
end Go.Proofs.YtigodbilfjppbaaGreatDoor.Wds
