/-
  The walk of the law on operations: results are words, order and brackets as told, sums and differences undo one another, saturated results; for all bytes it returns true and leaves what was there as it was.
-/
import Derived.Test.YtigodbilfjppbaaGreatDoorDraw2
import Derived.Test.YtigodbilfjppbaaGreatDoorDoOp
import Derived.Test.YtigodbilfjppbaaGreatDoorAt
import Derived.IntWalk
import Derived.Deep.Cut
import Derived.Outline
namespace Go.Proofs.YtigodbilfjppbaaGreatDoor.Wds
open Go.RowKit Go.Proofs.YtigodbilfjppbaaGreatDoor.Err
set_option linter.unusedVariables false

theorem below_drewN' {B : Nat} {a w : World} {m : Nat} (h : Below B a w) : Below B a (w.drewN m) := ⟨h.os, h.tape, h.output, h.size, h.block⟩
def DoB (op b x y r : Int) : Prop := ∀ W : World, ErrT W → Calls Tryz.prog 18 #[.int .i64 op, .int .i64 b, .int .i64 x, .int .i64 y] W fun e w' => e = .returned (.tuple #[.int .i64 r, .bool true]) ∧ Below W.heap.size W w'
theorem doB {op b x y r : Int} (h0 : 0 ≤ op) (h1 : op ≤ 17) (hx : Wd.IsWord b x) (hy : Wd.IsWord b y) (hr : r = Wd.doOp op b x y) : DoB op b x y r := by
  intro W hg; subst hr
  exact doOp_yes op b x y W h0 h1 hx hy hg
theorem doBw {op b x y r : Int} (h0 : 0 ≤ op) (h1 : op ≤ 17) (hx : Wd.IsWord b x) (hy : Wd.IsWord b y) (hr : r = Wd.doOp op b x y) : Wd.IsWord b r := by
  subst hr
  exact ⟨hx.1, Wd.doOp_word h0 h1 hx.1 hx.2 hy.2⟩
def SgB (b x s : Int) : Prop := ∀ W : World, Calls Tryz.prog 28 #[.int .i64 b, .int .i64 x] W fun e w' => e = .returned (.tuple #[.int .i64 s, .bool true]) ∧ W = w'
theorem sgB {b x s : Int} (hx : Wd.IsWord b x) (hs : s = Wd.sg b x) : SgB b x s := by
  intro W; subst hs; exact signedOf_yes b x W hx
def WoB (b n r : Int) : Prop := ∀ W : World, Calls Tryz.prog 20 #[.int .i64 b, .int .i64 n] W fun e w' => e = .returned (.tuple #[.int .i64 r, .bool true]) ∧ W = w'
def IsB (b x : Int) : Prop := ∀ W : World, Calls Tryz.prog 25 #[.int .i64 b, .int .i64 x] W fun e w' => e = .returned (.bool true) ∧ W = w'
/-- What the law reads of the drawn words and the drawn operation, ahead of its walk. -/
structure Facts (op b p q r x y z u v sum sat sign a c d : Int) : Prop where
  cxy : DoB op b p q x
  cyx : DoB op b q p y
  cqr : DoB op b q r z
  ix : IsB b x
  iz : IsB b z
  cu : DoB op b x r u
  cv : DoB op b p z v
  csum : DoB 0 b p q sum
  cback : DoB 1 b sum q p
  csat : DoB 10 b p q sat
  csign : DoB 11 b p q sign
  sa : SgB b p a
  sc : SgB b q c
  sd : SgB b sign d
  wo : WoB b (a + c) sum
  hc : Wd.comm op = true → x = y
  ha : Wd.assoc op = true → u = v
  hac : Wd.assoc op = true → Wd.comm op = true
  bits : Wd.IsBits b
  na : -40000 ≤ a ∧ a ≤ 40000
  nc : -40000 ≤ c ∧ c ≤ 40000
  np : p ≤ 70000
  nq : q ≤ 70000
  ba : - Wd.hf b ≤ a ∧ a < Wd.hf b
  bc : - Wd.hf b ≤ c ∧ c < Wd.hf b
  bp : 0 ≤ p ∧ p < Wd.pw b
  bq : 0 ≤ q ∧ q < Wd.pw b
  s1 : - Wd.hf b ≤ a + c → a + c < Wd.hf b → sign = sum
  s2 : Wd.hf b ≤ a + c → d = Wd.hf b - 1
  s3 : a + c < - Wd.hf b → d = - Wd.hf b
  t1 : p + q < Wd.pw b → sat = sum
  t2 : Wd.pw b ≤ p + q → sat = Wd.pw b - 1
theorem facts {op b p q r : Int} (h0 : 0 ≤ op) (h1 : op ≤ 17) (hp : Wd.IsWord b p) (hq : Wd.IsWord b q) (hr : Wd.IsWord b r) : ∃ x y z u v sum sat sign a c d, Facts op b p q r x y z u v sum sat sign a c d := by
  have wx := doBw h0 h1 hp hq rfl
  have wz := doBw h0 h1 hq hr rfl
  have wsum := doBw (op := 0) (by decide) (by decide) hp hq rfl
  have wsign := doBw (op := 11) (by decide) (by decide) hp hq rfl
  have ga := Wd.sg_range hp.1 hp.2
  have gc := Wd.sg_range hq.1 hq.2
  refine ⟨_, _, _, _, _, _, _, _, _, _, _, doB h0 h1 hp hq rfl, doB h0 h1 hq hp rfl, doB h0 h1 hq hr rfl, fun W => isWord_yes _ _ W wx, fun W => isWord_yes _ _ W wz, doB h0 h1 wx hr rfl, doB h0 h1 hp wz rfl,
    doB (by decide) (by decide) hp hq rfl, doB (by decide) (by decide) wsum hq (Wd.add_sub hp.1 hp.2 hq.2).symm, doB (by decide) (by decide) hp hq rfl, doB (by decide) (by decide) hp hq rfl, sgB hp rfl, sgB hq rfl, sgB wsign rfl, ?_,
    fun h => Wd.doOp_comm h hp.1 hp.2 hq.2, fun h => Wd.doOp_assoc h hp.1 hp.2 hq.2 hr.2, fun h => by unfold Wd.assoc at h; simp at h; exact h.1, hp.1, ⟨by omega, by omega⟩, ⟨by omega, by omega⟩, by have := hp.2; omega, by have := hq.2; omega, ⟨ga.1, ga.2.1⟩, ⟨gc.1, gc.2.1⟩, hp.2, hq.2, fun h1 h2 => Wd.sat_in hp.1 hp.2 hq.2 h1 h2, fun h => Wd.sat_hi hp.1 h, fun h => Wd.sat_lo hp.1 h, ?_, ?_⟩
  · intro W
    rw [← Wd.sum_sg hp.1 hp.2 hq.2]
    exact wordOf_yes _ _ W hp.1 (by omega) (by omega)
  · exact fun h => (Wd.satu hp.1 hp.2 hq.2).1 (by omega)
  · exact fun h => (Wd.satu hp.1 hp.2 hq.2).2 (by omega)
set_option maxRecDepth 100000 in
set_option maxHeartbeats 16000000 in
theorem law_ops (a0 : Option Addr) (len0 cap0 : Nat) (z0 : List Int) (a1 : Option Addr) (len1 cap1 : Nat) (z1 : List Int) (w : World) (r0 : IsRow .u8 w a0 len0 cap0 z0) (r1 : IsRow .u8 w a1 len1 cap1 z1) (hg : ErrT w) :
    Calls Tryz.prog 4 #[.slice a0 len0 cap0, .slice a1 len1 cap1] w fun e w' => e = .returned (.bool true) ∧ Below w.heap.size w w' := by
  have m0 := r0.len_le
  have m1 := r1.len_le
  by_cases hbig : 1048576 < len0 ∨ 1048576 < len1
  · have hlong : decide (1048576 < len0 ∨ 1048576 < len1) = true := decide_eq_true hbig
    clear hbig r0 r1 hg
    go_enter Tryz.func4, Tryz.ntmps4
    go_wp2_with fail
    refine (long_any _ _ _ _ _ _ _ m0 m1).mono ?_
    rintro e w' ⟨rfl, rfl⟩
    go_wp2_with fail
    go_ret
    exact ⟨rfl, Below.refl _ _⟩
  · have hlong : decide (1048576 < len0 ∨ 1048576 < len1) = false := decide_eq_false hbig
    have R0 := Lib.hid r0
    have R1 := Lib.hid r1
    have HG := Lib.hid hg
    clear hbig r0 r1 hg
    go_enter Tryz.func4, Tryz.ntmps4
    go_wp2_with fail
    refine (long_any _ _ _ _ _ _ _ m0 m1).mono ?_
    rintro e w' ⟨rfl, rfl⟩
    go_wp2_with fail
    refine (bits_any _ _ _ _ _ R0.out).mono ?_
    rintro e w1 ⟨b, rfl, hb, bel1⟩
    clear hlong m0 m1
    have HB := Lib.hid hb; clear hb
    have R0' := Lib.hid (R0.out.below bel1 R0.out.block)
    have R1' := Lib.hid (R1.out.below bel1 R1.out.block)
    have B1 := Lib.hid bel1; clear bel1
    go_wp2_with fail
    refine (b10words_any b 3 _ _ _ _ _ HB.out (by decide) (by decide) R1'.out).mono ?_
    rintro e w2 ⟨g, cap, ws, rfl, hl, hrr, k1, kg, k3, k4, hc, bel2⟩
    obtain ⟨p, hp0⟩ : ∃ p, p = ws.getD 0 0 := ⟨_, rfl⟩
    obtain ⟨q, hq0⟩ : ∃ q, q = ws.getD 1 0 := ⟨_, rfl⟩
    obtain ⟨r, hr0⟩ : ∃ r, r = ws.getD 2 0 := ⟨_, rfl⟩
    have hp := hc 0 (by decide)
    have hq := hc 1 (by decide)
    have hr := hc 2 (by decide)
    rw [← hp0] at hp
    rw [← hq0] at hq
    rw [← hr0] at hr
    have wp : Hid (Wd.IsWord b p) := Lib.hid ⟨HB.out, by rw [hp0]; exact hrr _ (getD_mem _ _ (by omega))⟩
    have wq : Hid (Wd.IsWord b q) := Lib.hid ⟨HB.out, by rw [hq0]; exact hrr _ (getD_mem _ _ (by omega))⟩
    have wr : Hid (Wd.IsWord b r) := Lib.hid ⟨HB.out, by rw [hr0]; exact hrr _ (getD_mem _ _ (by omega))⟩
    have R0'' := Lib.hid (R0'.out.below bel2 R0'.out.block)
    have HB2 := Lib.hid (B1.out.trans (bel2.mono B1.out.size))
    have HG2 := Lib.hid (HG.out.below HB2.out HG.out.lt)
    clear hp0 hq0 hr0 hc hrr hl k1 bel2 B1 R0 R1 R0' R1'
    go_wp2_with fail
    refine (at_any 1 18 _ _ _ _ _ (by decide) (by decide) (by decide) (by decide) R0''.out).mono ?_
    rintro e w' ⟨op, rfl, op0, op1, rfl⟩
    obtain ⟨x, y, z, u, v, sum, sat, sign, a, c, d, F⟩ := facts op0 (show op ≤ 17 by omega) wp.out wq.out wr.out
    have FF := Lib.hid F; clear F
    have OP : Hid (0 ≤ op ∧ op ≤ 17) := Lib.hid ⟨op0, by omega⟩
    clear op0 op1 R0'' wp wq wr
    go_wp2_with fail
    go_region_held3 (fun w' => w'.cell? ⟨g, 0, none⟩ = some (.int .i64 p) ∧ w'.cell? ⟨g, 1, none⟩ = some (.int .i64 q) ∧ w'.cell? ⟨g, 2, none⟩ = some (.int .i64 r)) (first | (exact ⟨(hbel.cell (p := ⟨g, 0, none⟩) kg).trans hp, (hbel.cell (p := ⟨g, 1, none⟩) kg).trans hq, (hbel.cell (p := ⟨g, 2, none⟩) kg).trans hr⟩) | go_keep)
      (first | (go_at_call 18; refine (FF.out.cxy _ ?_).mono ?_; (exact HG2.out); rintro e w3 ⟨rfl, hbel⟩; have hp3 := (hbel.cell (p := ⟨g, 0, none⟩) kg).trans hp; have hq3 := (hbel.cell (p := ⟨g, 1, none⟩) kg).trans hq; have hr3 := (hbel.cell (p := ⟨g, 2, none⟩) kg).trans hr))
    have HB3 := Lib.hid (HB2.out.trans (((show Below w2.heap.size w2 _ from by repeat (first | exact Below.refl _ _ | refine Below.drew ?_ | refine below_drewN' ?_)).trans (show Below w2.heap.size _ w3 from hbel)).mono HB2.out.size))
    have HG3 := Lib.hid (HG.out.below HB3.out HG.out.lt)
    have kg3 : g < w3.heap.size := Nat.lt_of_lt_of_le kg hbel.size
    clear hbel hp hq hr kg HG2 HB2
    have hp := hp3
    have hq := hq3
    have hr := hr3
    have kg := kg3
    clear hp3 hq3 hr3 kg3
    go_wp2_with fail
    go_region_held3 (fun w' => w'.cell? ⟨g, 0, none⟩ = some (.int .i64 p) ∧ w'.cell? ⟨g, 1, none⟩ = some (.int .i64 q) ∧ w'.cell? ⟨g, 2, none⟩ = some (.int .i64 r)) (first | (exact ⟨(hbel.cell (p := ⟨g, 0, none⟩) kg).trans hp, (hbel.cell (p := ⟨g, 1, none⟩) kg).trans hq, (hbel.cell (p := ⟨g, 2, none⟩) kg).trans hr⟩) | go_keep)
      (first | (go_at_call 18; refine (FF.out.cyx _ ?_).mono ?_; (exact HG3.out); rintro e w4 ⟨rfl, hbel⟩; have hp4 := (hbel.cell (p := ⟨g, 0, none⟩) kg).trans hp; have hq4 := (hbel.cell (p := ⟨g, 1, none⟩) kg).trans hq; have hr4 := (hbel.cell (p := ⟨g, 2, none⟩) kg).trans hr))
    have HB4 := Lib.hid (HB3.out.trans (((show Below w3.heap.size w3 _ from by repeat (first | exact Below.refl _ _ | refine Below.drew ?_ | refine below_drewN' ?_)).trans (show Below w3.heap.size _ w4 from hbel)).mono HB3.out.size))
    have HG4 := Lib.hid (HG.out.below HB4.out HG.out.lt)
    have kg4 : g < w4.heap.size := Nat.lt_of_lt_of_le kg hbel.size
    clear hbel hp hq hr kg HG3 HB3
    have hp := hp4
    have hq := hq4
    have hr := hr4
    have kg := kg4
    clear hp4 hq4 hr4 kg4
    go_wp2_with fail
    go_region_held3 (fun w' => w'.cell? ⟨g, 0, none⟩ = some (.int .i64 p) ∧ w'.cell? ⟨g, 1, none⟩ = some (.int .i64 q) ∧ w'.cell? ⟨g, 2, none⟩ = some (.int .i64 r)) (first | (exact ⟨(hbel.cell (p := ⟨g, 0, none⟩) kg).trans hp, (hbel.cell (p := ⟨g, 1, none⟩) kg).trans hq, (hbel.cell (p := ⟨g, 2, none⟩) kg).trans hr⟩) | go_keep)
      (first | (go_at_call 18; refine (FF.out.cqr _ ?_).mono ?_; (exact HG4.out); rintro e w5 ⟨rfl, hbel⟩; have hp5 := (hbel.cell (p := ⟨g, 0, none⟩) kg).trans hp; have hq5 := (hbel.cell (p := ⟨g, 1, none⟩) kg).trans hq; have hr5 := (hbel.cell (p := ⟨g, 2, none⟩) kg).trans hr))
    have HB5 := Lib.hid (HB4.out.trans (((show Below w4.heap.size w4 _ from by repeat (first | exact Below.refl _ _ | refine Below.drew ?_ | refine below_drewN' ?_)).trans (show Below w4.heap.size _ w5 from hbel)).mono HB4.out.size))
    have HG5 := Lib.hid (HG.out.below HB5.out HG.out.lt)
    have kg5 : g < w5.heap.size := Nat.lt_of_lt_of_le kg hbel.size
    clear hbel hp hq hr kg HG4 HB4
    have hp := hp5
    have hq := hq5
    have hr := hr5
    have kg := kg5
    clear hp5 hq5 hr5 kg5
    have hcc := FF.out.hc
    have haa := FF.out.ha
    have hca := FF.out.hac
    have CC := Lib.hid (fun W => comm_in op W OP.out.1 OP.out.2)
    have CA := Lib.hid (fun W => assoc_in op W OP.out.1 OP.out.2)
    obtain ⟨cm, hcm⟩ : ∃ cm, cm = Wd.comm op := ⟨_, rfl⟩
    obtain ⟨sc, hsc⟩ : ∃ sc, sc = Wd.assoc op := ⟨_, rfl⟩
    rw [← hcm] at hcc hca CC
    rw [← hsc] at haa hca CA
    clear hcm hsc
    go_wp2_with fail
    refine (FF.out.ix _).mono ?_
    rintro e w' ⟨rfl, rfl⟩
    go_wp2_with fail
    refine (FF.out.iz _).mono ?_
    rintro e w' ⟨rfl, rfl⟩
    go_wp2_with fail
    refine (CC.out _).mono ?_
    rintro e w' ⟨rfl, rfl⟩
    rcases (show (cm = true ∧ sc = true) ∨ (cm = true ∧ sc = false) ∨ (cm = false ∧ sc = false) from by cases cm <;> cases sc <;> simp at hca ⊢) with ⟨rfl, rfl⟩ | ⟨rfl, rfl⟩ | ⟨rfl, rfl⟩
    · as_aux_lemma =>
      have hxy : x = y := hcc rfl
      have huv : u = v := haa rfl
      subst hxy huv
      clear hcc haa hca
      go_wp2_with fail
      refine (FF.out.cu _ HG5.out).mono ?_
      rintro e w6 ⟨rfl, hbel⟩
      have hp6 := (hbel.cell (p := ⟨g, 0, none⟩) kg).trans hp
      have hq6 := (hbel.cell (p := ⟨g, 1, none⟩) kg).trans hq
      have hr6 := (hbel.cell (p := ⟨g, 2, none⟩) kg).trans hr
      have HB6 := Lib.hid (HB5.out.trans (((show Below w5.heap.size w5 _ from by repeat (first | exact Below.refl _ _ | refine Below.drew ?_ | refine below_drewN' ?_)).trans (show Below w5.heap.size _ w6 from hbel)).mono HB5.out.size))
      have HG6 := Lib.hid (HG.out.below HB6.out HG.out.lt)
      have kg6 : g < w6.heap.size := Nat.lt_of_lt_of_le kg hbel.size
      clear hbel hp hq hr kg HG5 HB5
      have hp := hp6
      have hq := hq6
      have hr := hr6
      have kg := kg6
      clear hp6 hq6 hr6 kg6
      go_wp2_with fail
      refine (FF.out.cv _ HG6.out).mono ?_
      rintro e w7 ⟨rfl, hbel⟩
      have hp7 := (hbel.cell (p := ⟨g, 0, none⟩) kg).trans hp
      have hq7 := (hbel.cell (p := ⟨g, 1, none⟩) kg).trans hq
      have hr7 := (hbel.cell (p := ⟨g, 2, none⟩) kg).trans hr
      have HB7 := Lib.hid (HB6.out.trans (((show Below w6.heap.size w6 _ from by repeat (first | exact Below.refl _ _ | refine Below.drew ?_ | refine below_drewN' ?_)).trans (show Below w6.heap.size _ w7 from hbel)).mono HB6.out.size))
      have HG7 := Lib.hid (HG.out.below HB7.out HG.out.lt)
      have kg7 : g < w7.heap.size := Nat.lt_of_lt_of_le kg hbel.size
      clear hbel hp hq hr kg HG6 HB6
      have hp := hp7
      have hq := hq7
      have hr := hr7
      have kg := kg7
      clear hp7 hq7 hr7 kg7
      go_wp2_with fail
      refine (CA.out _).mono ?_
      rintro e w' ⟨rfl, rfl⟩
      go_wp2_with fail
      refine (CA.out _).mono ?_
      rintro e w' ⟨rfl, rfl⟩
      go_wp2_with fail
      refine (CC.out _).mono ?_
      rintro e w' ⟨rfl, rfl⟩
      go_wp2_with fail
      go_region_held3 (fun w' => w'.cell? ⟨g, 0, none⟩ = some (.int .i64 p) ∧ w'.cell? ⟨g, 1, none⟩ = some (.int .i64 q) ∧ w'.cell? ⟨g, 2, none⟩ = some (.int .i64 r)) (first | (exact ⟨(hbel.cell (p := ⟨g, 0, none⟩) kg).trans hp, (hbel.cell (p := ⟨g, 1, none⟩) kg).trans hq, (hbel.cell (p := ⟨g, 2, none⟩) kg).trans hr⟩) | go_keep)
        (first | (go_at_call 18; refine (FF.out.csum _ ?_).mono ?_; (exact HG7.out); rintro e w8 ⟨rfl, hbel⟩; have hp8 := (hbel.cell (p := ⟨g, 0, none⟩) kg).trans hp; have hq8 := (hbel.cell (p := ⟨g, 1, none⟩) kg).trans hq; have hr8 := (hbel.cell (p := ⟨g, 2, none⟩) kg).trans hr))
      have HB8 := Lib.hid (HB7.out.trans (((show Below w7.heap.size w7 _ from by repeat (first | exact Below.refl _ _ | refine Below.drew ?_ | refine below_drewN' ?_)).trans (show Below w7.heap.size _ w8 from hbel)).mono HB7.out.size))
      have HG8 := Lib.hid (HG.out.below HB8.out HG.out.lt)
      have kg8 : g < w8.heap.size := Nat.lt_of_lt_of_le kg hbel.size
      clear hbel hp hq hr kg HG7 HB7
      have hp := hp8
      have hq := hq8
      have hr := hr8
      have kg := kg8
      clear hp8 hq8 hr8 kg8
      go_wp2_with fail
      refine (FF.out.cback _ HG8.out).mono ?_
      rintro e w9 ⟨rfl, hbel⟩
      have hp9 := (hbel.cell (p := ⟨g, 0, none⟩) kg).trans hp
      have hq9 := (hbel.cell (p := ⟨g, 1, none⟩) kg).trans hq
      have hr9 := (hbel.cell (p := ⟨g, 2, none⟩) kg).trans hr
      have HB9 := Lib.hid (HB8.out.trans (((show Below w8.heap.size w8 _ from by repeat (first | exact Below.refl _ _ | refine Below.drew ?_ | refine below_drewN' ?_)).trans (show Below w8.heap.size _ w9 from hbel)).mono HB8.out.size))
      have HG9 := Lib.hid (HG.out.below HB9.out HG.out.lt)
      have kg9 : g < w9.heap.size := Nat.lt_of_lt_of_le kg hbel.size
      clear hbel hp hq hr kg HG8 HB8
      have hp := hp9
      have hq := hq9
      have hr := hr9
      have kg := kg9
      clear hp9 hq9 hr9 kg9
      go_wp2_with fail
      go_region_held3 (fun w' => w'.cell? ⟨g, 0, none⟩ = some (.int .i64 p) ∧ w'.cell? ⟨g, 1, none⟩ = some (.int .i64 q) ∧ w'.cell? ⟨g, 2, none⟩ = some (.int .i64 r)) (first | (exact ⟨(hbel.cell (p := ⟨g, 0, none⟩) kg).trans hp, (hbel.cell (p := ⟨g, 1, none⟩) kg).trans hq, (hbel.cell (p := ⟨g, 2, none⟩) kg).trans hr⟩) | go_keep)
        (first | (go_at_call 18; refine (FF.out.csat _ ?_).mono ?_; (exact HG9.out); rintro e w10 ⟨rfl, hbel⟩; have hp10 := (hbel.cell (p := ⟨g, 0, none⟩) kg).trans hp; have hq10 := (hbel.cell (p := ⟨g, 1, none⟩) kg).trans hq; have hr10 := (hbel.cell (p := ⟨g, 2, none⟩) kg).trans hr))
      have HB10 := Lib.hid (HB9.out.trans (((show Below w9.heap.size w9 _ from by repeat (first | exact Below.refl _ _ | refine Below.drew ?_ | refine below_drewN' ?_)).trans (show Below w9.heap.size _ w10 from hbel)).mono HB9.out.size))
      have HG10 := Lib.hid (HG.out.below HB10.out HG.out.lt)
      have kg10 : g < w10.heap.size := Nat.lt_of_lt_of_le kg hbel.size
      clear hbel hp hq hr kg HG9 HB9
      have hp := hp10
      have hq := hq10
      have hr := hr10
      have kg := kg10
      clear hp10 hq10 hr10 kg10
      go_wp2_with fail
      go_region_held3 (fun w' => w'.cell? ⟨g, 0, none⟩ = some (.int .i64 p) ∧ w'.cell? ⟨g, 1, none⟩ = some (.int .i64 q) ∧ w'.cell? ⟨g, 2, none⟩ = some (.int .i64 r)) (first | (exact ⟨(hbel.cell (p := ⟨g, 0, none⟩) kg).trans hp, (hbel.cell (p := ⟨g, 1, none⟩) kg).trans hq, (hbel.cell (p := ⟨g, 2, none⟩) kg).trans hr⟩) | go_keep)
        (first | (go_at_call 18; refine (FF.out.csign _ ?_).mono ?_; (exact HG10.out); rintro e w11 ⟨rfl, hbel⟩; have hp11 := (hbel.cell (p := ⟨g, 0, none⟩) kg).trans hp; have hq11 := (hbel.cell (p := ⟨g, 1, none⟩) kg).trans hq; have hr11 := (hbel.cell (p := ⟨g, 2, none⟩) kg).trans hr))
      have HB11 := Lib.hid (HB10.out.trans (((show Below w10.heap.size w10 _ from by repeat (first | exact Below.refl _ _ | refine Below.drew ?_ | refine below_drewN' ?_)).trans (show Below w10.heap.size _ w11 from hbel)).mono HB10.out.size))
      have HG11 := Lib.hid (HG.out.below HB11.out HG.out.lt)
      have kg11 : g < w11.heap.size := Nat.lt_of_lt_of_le kg hbel.size
      clear hbel hp hq hr kg HG10 HB10
      have hp := hp11
      have hq := hq11
      have hr := hr11
      have kg := kg11
      clear hp11 hq11 hr11 kg11
      go_wp2_with fail
      refine (FF.out.sa _).mono ?_
      rintro e w' ⟨rfl, rfl⟩
      go_wp2_with fail
      refine (FF.out.sc _).mono ?_
      rintro e w' ⟨rfl, rfl⟩
      go_wp2_with fail
      refine (FF.out.sd _).mono ?_
      rintro e w' ⟨rfl, rfl⟩
      obtain ⟨na1, na2⟩ := FF.out.na
      obtain ⟨nc1, nc2⟩ := FF.out.nc
      go_wp2_with fail
      refine (FF.out.wo _).mono ?_
      rintro e w' ⟨rfl, rfl⟩
      have np := FF.out.np
      have nq := FF.out.nq
      have bp := FF.out.bp.1
      have bq := FF.out.bq.1
      have s1 := FF.out.s1
      have s2 := FF.out.s2
      have s3 := FF.out.s3
      have t1 := FF.out.t1
      have t2 := FF.out.t2
      have hbb := HB.out
      have hwr : IntKind.i64.wrap (p + q) = p + q := IntWalk.i64_in _ (by omega)
      clear FF CC CA OP HG11 HG HB
      have T1 := Lib.hid t1; clear t1
      have T2 := Lib.hid t2; clear t2
      go_upto_region 25 with (fail)
      rcases hbb with rfl | rfl | rfl
      · rw [show Wd.hf 4 = 8 from by decide] at s1 s2 s3
        rcases (show (-8 ≤ a + c ∧ a + c < 8 ∧ sign = sum) ∨ (8 ≤ a + c ∧ d = 7) ∨ (a + c < -8 ∧ d = -8) from by
          by_cases h1 : -8 ≤ a + c
          · by_cases h2 : a + c < 8
            · exact .inl ⟨h1, h2, s1 h1 h2⟩
            · exact .inr (.inl ⟨by omega, by have := s2 (by omega); omega⟩)
          · exact .inr (.inr ⟨by omega, s3 (by omega)⟩)) with ⟨h1, h2, rfl⟩ | ⟨h1, rfl⟩ | ⟨h1, rfl⟩
        · as_aux_lemma =>
          have e1 : decide (-8 ≤ a + c) = true := decide_eq_true (by omega)
          have e2 : decide (a + c < 8) = true := decide_eq_true (by omega)
          have e3 : decide (8 ≤ a + c) = false := decide_eq_false (by omega)
          have e4 : decide (a + c < -8) = false := decide_eq_false (by omega)
          clear s1 s2 s3
          go_wp2_with fail
          have t1 := T1.out
          have t2 := T2.out
          rw [show Wd.pw 4 = 16 from by decide] at t1 t2
          rcases (show (p + q ≤ 15 ∧ sat = sign) ∨ (15 < p + q ∧ sat = 15) from by
            by_cases h : p + q < 16
            · exact .inl ⟨by omega, t1 h⟩
            · exact .inr ⟨by omega, by have := t2 (by omega); omega⟩) with ⟨k1, rfl⟩ | ⟨k1, rfl⟩
          · have f1 : decide (p + q ≤ 15) = true := decide_eq_true (by omega)
            have f2 : decide (15 < p + q) = false := decide_eq_false (by omega)
            clear t1 t2 T1 T2
            go_quiet (fail)
            go_wp2
            go_ret
            exact ⟨rfl, HB11.out.trans (show Below w.heap.size w11 _ from by repeat (first | exact Below.refl _ _ | refine Below.drew ?_ | refine below_drewN' ?_))⟩
          · have f1 : decide (p + q ≤ 15) = false := decide_eq_false (by omega)
            have f2 : decide (15 < p + q) = true := decide_eq_true (by omega)
            clear t1 t2 T1 T2
            go_quiet (fail)
            go_wp2
            go_ret
            exact ⟨rfl, HB11.out.trans (show Below w.heap.size w11 _ from by repeat (first | exact Below.refl _ _ | refine Below.drew ?_ | refine below_drewN' ?_))⟩
        · as_aux_lemma =>
          have e1 : decide (-8 ≤ a + c) = true := decide_eq_true (by omega)
          have e2 : decide (a + c < 8) = false := decide_eq_false (by omega)
          have e3 : decide (8 ≤ a + c) = true := decide_eq_true (by omega)
          have e4 : decide (a + c < -8) = false := decide_eq_false (by omega)
          clear s1 s2 s3
          go_wp2_with fail
          have t1 := T1.out
          have t2 := T2.out
          rw [show Wd.pw 4 = 16 from by decide] at t1 t2
          rcases (show (p + q ≤ 15 ∧ sat = sum) ∨ (15 < p + q ∧ sat = 15) from by
            by_cases h : p + q < 16
            · exact .inl ⟨by omega, t1 h⟩
            · exact .inr ⟨by omega, by have := t2 (by omega); omega⟩) with ⟨k1, rfl⟩ | ⟨k1, rfl⟩
          · have f1 : decide (p + q ≤ 15) = true := decide_eq_true (by omega)
            have f2 : decide (15 < p + q) = false := decide_eq_false (by omega)
            clear t1 t2 T1 T2
            go_quiet (fail)
            go_wp2
            go_ret
            exact ⟨rfl, HB11.out.trans (show Below w.heap.size w11 _ from by repeat (first | exact Below.refl _ _ | refine Below.drew ?_ | refine below_drewN' ?_))⟩
          · have f1 : decide (p + q ≤ 15) = false := decide_eq_false (by omega)
            have f2 : decide (15 < p + q) = true := decide_eq_true (by omega)
            clear t1 t2 T1 T2
            go_quiet (fail)
            go_wp2
            go_ret
            exact ⟨rfl, HB11.out.trans (show Below w.heap.size w11 _ from by repeat (first | exact Below.refl _ _ | refine Below.drew ?_ | refine below_drewN' ?_))⟩
        · as_aux_lemma =>
          have e1 : decide (-8 ≤ a + c) = false := decide_eq_false (by omega)
          have e2 : decide (a + c < 8) = true := decide_eq_true (by omega)
          have e3 : decide (8 ≤ a + c) = false := decide_eq_false (by omega)
          have e4 : decide (a + c < -8) = true := decide_eq_true (by omega)
          clear s1 s2 s3
          go_wp2_with fail
          have t1 := T1.out
          have t2 := T2.out
          rw [show Wd.pw 4 = 16 from by decide] at t1 t2
          rcases (show (p + q ≤ 15 ∧ sat = sum) ∨ (15 < p + q ∧ sat = 15) from by
            by_cases h : p + q < 16
            · exact .inl ⟨by omega, t1 h⟩
            · exact .inr ⟨by omega, by have := t2 (by omega); omega⟩) with ⟨k1, rfl⟩ | ⟨k1, rfl⟩
          · have f1 : decide (p + q ≤ 15) = true := decide_eq_true (by omega)
            have f2 : decide (15 < p + q) = false := decide_eq_false (by omega)
            clear t1 t2 T1 T2
            go_quiet (fail)
            go_wp2
            go_ret
            exact ⟨rfl, HB11.out.trans (show Below w.heap.size w11 _ from by repeat (first | exact Below.refl _ _ | refine Below.drew ?_ | refine below_drewN' ?_))⟩
          · have f1 : decide (p + q ≤ 15) = false := decide_eq_false (by omega)
            have f2 : decide (15 < p + q) = true := decide_eq_true (by omega)
            clear t1 t2 T1 T2
            go_quiet (fail)
            go_wp2
            go_ret
            exact ⟨rfl, HB11.out.trans (show Below w.heap.size w11 _ from by repeat (first | exact Below.refl _ _ | refine Below.drew ?_ | refine below_drewN' ?_))⟩
      · rw [show Wd.hf 8 = 128 from by decide] at s1 s2 s3
        rcases (show (-128 ≤ a + c ∧ a + c < 128 ∧ sign = sum) ∨ (128 ≤ a + c ∧ d = 127) ∨ (a + c < -128 ∧ d = -128) from by
          by_cases h1 : -128 ≤ a + c
          · by_cases h2 : a + c < 128
            · exact .inl ⟨h1, h2, s1 h1 h2⟩
            · exact .inr (.inl ⟨by omega, by have := s2 (by omega); omega⟩)
          · exact .inr (.inr ⟨by omega, s3 (by omega)⟩)) with ⟨h1, h2, rfl⟩ | ⟨h1, rfl⟩ | ⟨h1, rfl⟩
        · as_aux_lemma =>
          have e1 : decide (-128 ≤ a + c) = true := decide_eq_true (by omega)
          have e2 : decide (a + c < 128) = true := decide_eq_true (by omega)
          have e3 : decide (128 ≤ a + c) = false := decide_eq_false (by omega)
          have e4 : decide (a + c < -128) = false := decide_eq_false (by omega)
          clear s1 s2 s3
          go_wp2_with fail
          have t1 := T1.out
          have t2 := T2.out
          rw [show Wd.pw 8 = 256 from by decide] at t1 t2
          rcases (show (p + q ≤ 255 ∧ sat = sign) ∨ (255 < p + q ∧ sat = 255) from by
            by_cases h : p + q < 256
            · exact .inl ⟨by omega, t1 h⟩
            · exact .inr ⟨by omega, by have := t2 (by omega); omega⟩) with ⟨k1, rfl⟩ | ⟨k1, rfl⟩
          · have f1 : decide (p + q ≤ 255) = true := decide_eq_true (by omega)
            have f2 : decide (255 < p + q) = false := decide_eq_false (by omega)
            clear t1 t2 T1 T2
            go_quiet (fail)
            go_wp2
            go_ret
            exact ⟨rfl, HB11.out.trans (show Below w.heap.size w11 _ from by repeat (first | exact Below.refl _ _ | refine Below.drew ?_ | refine below_drewN' ?_))⟩
          · have f1 : decide (p + q ≤ 255) = false := decide_eq_false (by omega)
            have f2 : decide (255 < p + q) = true := decide_eq_true (by omega)
            clear t1 t2 T1 T2
            go_quiet (fail)
            go_wp2
            go_ret
            exact ⟨rfl, HB11.out.trans (show Below w.heap.size w11 _ from by repeat (first | exact Below.refl _ _ | refine Below.drew ?_ | refine below_drewN' ?_))⟩
        · as_aux_lemma =>
          have e1 : decide (-128 ≤ a + c) = true := decide_eq_true (by omega)
          have e2 : decide (a + c < 128) = false := decide_eq_false (by omega)
          have e3 : decide (128 ≤ a + c) = true := decide_eq_true (by omega)
          have e4 : decide (a + c < -128) = false := decide_eq_false (by omega)
          clear s1 s2 s3
          go_wp2_with fail
          have t1 := T1.out
          have t2 := T2.out
          rw [show Wd.pw 8 = 256 from by decide] at t1 t2
          rcases (show (p + q ≤ 255 ∧ sat = sum) ∨ (255 < p + q ∧ sat = 255) from by
            by_cases h : p + q < 256
            · exact .inl ⟨by omega, t1 h⟩
            · exact .inr ⟨by omega, by have := t2 (by omega); omega⟩) with ⟨k1, rfl⟩ | ⟨k1, rfl⟩
          · have f1 : decide (p + q ≤ 255) = true := decide_eq_true (by omega)
            have f2 : decide (255 < p + q) = false := decide_eq_false (by omega)
            clear t1 t2 T1 T2
            go_quiet (fail)
            go_wp2
            go_ret
            exact ⟨rfl, HB11.out.trans (show Below w.heap.size w11 _ from by repeat (first | exact Below.refl _ _ | refine Below.drew ?_ | refine below_drewN' ?_))⟩
          · have f1 : decide (p + q ≤ 255) = false := decide_eq_false (by omega)
            have f2 : decide (255 < p + q) = true := decide_eq_true (by omega)
            clear t1 t2 T1 T2
            go_quiet (fail)
            go_wp2
            go_ret
            exact ⟨rfl, HB11.out.trans (show Below w.heap.size w11 _ from by repeat (first | exact Below.refl _ _ | refine Below.drew ?_ | refine below_drewN' ?_))⟩
        · as_aux_lemma =>
          have e1 : decide (-128 ≤ a + c) = false := decide_eq_false (by omega)
          have e2 : decide (a + c < 128) = true := decide_eq_true (by omega)
          have e3 : decide (128 ≤ a + c) = false := decide_eq_false (by omega)
          have e4 : decide (a + c < -128) = true := decide_eq_true (by omega)
          clear s1 s2 s3
          go_wp2_with fail
          have t1 := T1.out
          have t2 := T2.out
          rw [show Wd.pw 8 = 256 from by decide] at t1 t2
          rcases (show (p + q ≤ 255 ∧ sat = sum) ∨ (255 < p + q ∧ sat = 255) from by
            by_cases h : p + q < 256
            · exact .inl ⟨by omega, t1 h⟩
            · exact .inr ⟨by omega, by have := t2 (by omega); omega⟩) with ⟨k1, rfl⟩ | ⟨k1, rfl⟩
          · have f1 : decide (p + q ≤ 255) = true := decide_eq_true (by omega)
            have f2 : decide (255 < p + q) = false := decide_eq_false (by omega)
            clear t1 t2 T1 T2
            go_quiet (fail)
            go_wp2
            go_ret
            exact ⟨rfl, HB11.out.trans (show Below w.heap.size w11 _ from by repeat (first | exact Below.refl _ _ | refine Below.drew ?_ | refine below_drewN' ?_))⟩
          · have f1 : decide (p + q ≤ 255) = false := decide_eq_false (by omega)
            have f2 : decide (255 < p + q) = true := decide_eq_true (by omega)
            clear t1 t2 T1 T2
            go_quiet (fail)
            go_wp2
            go_ret
            exact ⟨rfl, HB11.out.trans (show Below w.heap.size w11 _ from by repeat (first | exact Below.refl _ _ | refine Below.drew ?_ | refine below_drewN' ?_))⟩
      · rw [show Wd.hf 16 = 32768 from by decide] at s1 s2 s3
        rcases (show (-32768 ≤ a + c ∧ a + c < 32768 ∧ sign = sum) ∨ (32768 ≤ a + c ∧ d = 32767) ∨ (a + c < -32768 ∧ d = -32768) from by
          by_cases h1 : -32768 ≤ a + c
          · by_cases h2 : a + c < 32768
            · exact .inl ⟨h1, h2, s1 h1 h2⟩
            · exact .inr (.inl ⟨by omega, by have := s2 (by omega); omega⟩)
          · exact .inr (.inr ⟨by omega, s3 (by omega)⟩)) with ⟨h1, h2, rfl⟩ | ⟨h1, rfl⟩ | ⟨h1, rfl⟩
        · as_aux_lemma =>
          have e1 : decide (-32768 ≤ a + c) = true := decide_eq_true (by omega)
          have e2 : decide (a + c < 32768) = true := decide_eq_true (by omega)
          have e3 : decide (32768 ≤ a + c) = false := decide_eq_false (by omega)
          have e4 : decide (a + c < -32768) = false := decide_eq_false (by omega)
          clear s1 s2 s3
          go_wp2_with fail
          have t1 := T1.out
          have t2 := T2.out
          rw [show Wd.pw 16 = 65536 from by decide] at t1 t2
          rcases (show (p + q ≤ 65535 ∧ sat = sign) ∨ (65535 < p + q ∧ sat = 65535) from by
            by_cases h : p + q < 65536
            · exact .inl ⟨by omega, t1 h⟩
            · exact .inr ⟨by omega, by have := t2 (by omega); omega⟩) with ⟨k1, rfl⟩ | ⟨k1, rfl⟩
          · have f1 : decide (p + q ≤ 65535) = true := decide_eq_true (by omega)
            have f2 : decide (65535 < p + q) = false := decide_eq_false (by omega)
            clear t1 t2 T1 T2
            go_quiet (fail)
            go_wp2
            go_ret
            exact ⟨rfl, HB11.out.trans (show Below w.heap.size w11 _ from by repeat (first | exact Below.refl _ _ | refine Below.drew ?_ | refine below_drewN' ?_))⟩
          · have f1 : decide (p + q ≤ 65535) = false := decide_eq_false (by omega)
            have f2 : decide (65535 < p + q) = true := decide_eq_true (by omega)
            clear t1 t2 T1 T2
            go_quiet (fail)
            go_wp2
            go_ret
            exact ⟨rfl, HB11.out.trans (show Below w.heap.size w11 _ from by repeat (first | exact Below.refl _ _ | refine Below.drew ?_ | refine below_drewN' ?_))⟩
        · as_aux_lemma =>
          have e1 : decide (-32768 ≤ a + c) = true := decide_eq_true (by omega)
          have e2 : decide (a + c < 32768) = false := decide_eq_false (by omega)
          have e3 : decide (32768 ≤ a + c) = true := decide_eq_true (by omega)
          have e4 : decide (a + c < -32768) = false := decide_eq_false (by omega)
          clear s1 s2 s3
          go_wp2_with fail
          have t1 := T1.out
          have t2 := T2.out
          rw [show Wd.pw 16 = 65536 from by decide] at t1 t2
          rcases (show (p + q ≤ 65535 ∧ sat = sum) ∨ (65535 < p + q ∧ sat = 65535) from by
            by_cases h : p + q < 65536
            · exact .inl ⟨by omega, t1 h⟩
            · exact .inr ⟨by omega, by have := t2 (by omega); omega⟩) with ⟨k1, rfl⟩ | ⟨k1, rfl⟩
          · have f1 : decide (p + q ≤ 65535) = true := decide_eq_true (by omega)
            have f2 : decide (65535 < p + q) = false := decide_eq_false (by omega)
            clear t1 t2 T1 T2
            go_quiet (fail)
            go_wp2
            go_ret
            exact ⟨rfl, HB11.out.trans (show Below w.heap.size w11 _ from by repeat (first | exact Below.refl _ _ | refine Below.drew ?_ | refine below_drewN' ?_))⟩
          · have f1 : decide (p + q ≤ 65535) = false := decide_eq_false (by omega)
            have f2 : decide (65535 < p + q) = true := decide_eq_true (by omega)
            clear t1 t2 T1 T2
            go_quiet (fail)
            go_wp2
            go_ret
            exact ⟨rfl, HB11.out.trans (show Below w.heap.size w11 _ from by repeat (first | exact Below.refl _ _ | refine Below.drew ?_ | refine below_drewN' ?_))⟩
        · as_aux_lemma =>
          have e1 : decide (-32768 ≤ a + c) = false := decide_eq_false (by omega)
          have e2 : decide (a + c < 32768) = true := decide_eq_true (by omega)
          have e3 : decide (32768 ≤ a + c) = false := decide_eq_false (by omega)
          have e4 : decide (a + c < -32768) = true := decide_eq_true (by omega)
          clear s1 s2 s3
          go_wp2_with fail
          have t1 := T1.out
          have t2 := T2.out
          rw [show Wd.pw 16 = 65536 from by decide] at t1 t2
          rcases (show (p + q ≤ 65535 ∧ sat = sum) ∨ (65535 < p + q ∧ sat = 65535) from by
            by_cases h : p + q < 65536
            · exact .inl ⟨by omega, t1 h⟩
            · exact .inr ⟨by omega, by have := t2 (by omega); omega⟩) with ⟨k1, rfl⟩ | ⟨k1, rfl⟩
          · have f1 : decide (p + q ≤ 65535) = true := decide_eq_true (by omega)
            have f2 : decide (65535 < p + q) = false := decide_eq_false (by omega)
            clear t1 t2 T1 T2
            go_quiet (fail)
            go_wp2
            go_ret
            exact ⟨rfl, HB11.out.trans (show Below w.heap.size w11 _ from by repeat (first | exact Below.refl _ _ | refine Below.drew ?_ | refine below_drewN' ?_))⟩
          · have f1 : decide (p + q ≤ 65535) = false := decide_eq_false (by omega)
            have f2 : decide (65535 < p + q) = true := decide_eq_true (by omega)
            clear t1 t2 T1 T2
            go_quiet (fail)
            go_wp2
            go_ret
            exact ⟨rfl, HB11.out.trans (show Below w.heap.size w11 _ from by repeat (first | exact Below.refl _ _ | refine Below.drew ?_ | refine below_drewN' ?_))⟩
    · as_aux_lemma =>
      have hxy : x = y := hcc rfl
      subst hxy
      clear hcc haa hca
      go_wp2_with fail
      refine (FF.out.cu _ HG5.out).mono ?_
      rintro e w6 ⟨rfl, hbel⟩
      have hp6 := (hbel.cell (p := ⟨g, 0, none⟩) kg).trans hp
      have hq6 := (hbel.cell (p := ⟨g, 1, none⟩) kg).trans hq
      have hr6 := (hbel.cell (p := ⟨g, 2, none⟩) kg).trans hr
      have HB6 := Lib.hid (HB5.out.trans (((show Below w5.heap.size w5 _ from by repeat (first | exact Below.refl _ _ | refine Below.drew ?_ | refine below_drewN' ?_)).trans (show Below w5.heap.size _ w6 from hbel)).mono HB5.out.size))
      have HG6 := Lib.hid (HG.out.below HB6.out HG.out.lt)
      have kg6 : g < w6.heap.size := Nat.lt_of_lt_of_le kg hbel.size
      clear hbel hp hq hr kg HG5 HB5
      have hp := hp6
      have hq := hq6
      have hr := hr6
      have kg := kg6
      clear hp6 hq6 hr6 kg6
      go_wp2_with fail
      refine (FF.out.cv _ HG6.out).mono ?_
      rintro e w7 ⟨rfl, hbel⟩
      have hp7 := (hbel.cell (p := ⟨g, 0, none⟩) kg).trans hp
      have hq7 := (hbel.cell (p := ⟨g, 1, none⟩) kg).trans hq
      have hr7 := (hbel.cell (p := ⟨g, 2, none⟩) kg).trans hr
      have HB7 := Lib.hid (HB6.out.trans (((show Below w6.heap.size w6 _ from by repeat (first | exact Below.refl _ _ | refine Below.drew ?_ | refine below_drewN' ?_)).trans (show Below w6.heap.size _ w7 from hbel)).mono HB6.out.size))
      have HG7 := Lib.hid (HG.out.below HB7.out HG.out.lt)
      have kg7 : g < w7.heap.size := Nat.lt_of_lt_of_le kg hbel.size
      clear hbel hp hq hr kg HG6 HB6
      have hp := hp7
      have hq := hq7
      have hr := hr7
      have kg := kg7
      clear hp7 hq7 hr7 kg7
      go_wp2_with fail
      refine (CA.out _).mono ?_
      rintro e w' ⟨rfl, rfl⟩
      go_wp2_with fail
      refine (CA.out _).mono ?_
      rintro e w' ⟨rfl, rfl⟩
      go_wp2_with fail
      go_region_held3 (fun w' => w'.cell? ⟨g, 0, none⟩ = some (.int .i64 p) ∧ w'.cell? ⟨g, 1, none⟩ = some (.int .i64 q) ∧ w'.cell? ⟨g, 2, none⟩ = some (.int .i64 r)) (first | (exact ⟨(hbel.cell (p := ⟨g, 0, none⟩) kg).trans hp, (hbel.cell (p := ⟨g, 1, none⟩) kg).trans hq, (hbel.cell (p := ⟨g, 2, none⟩) kg).trans hr⟩) | go_keep)
        (first | (go_at_call 18; refine (FF.out.csum _ ?_).mono ?_; (exact HG7.out); rintro e w8 ⟨rfl, hbel⟩; have hp8 := (hbel.cell (p := ⟨g, 0, none⟩) kg).trans hp; have hq8 := (hbel.cell (p := ⟨g, 1, none⟩) kg).trans hq; have hr8 := (hbel.cell (p := ⟨g, 2, none⟩) kg).trans hr))
      have HB8 := Lib.hid (HB7.out.trans (((show Below w7.heap.size w7 _ from by repeat (first | exact Below.refl _ _ | refine Below.drew ?_ | refine below_drewN' ?_)).trans (show Below w7.heap.size _ w8 from hbel)).mono HB7.out.size))
      have HG8 := Lib.hid (HG.out.below HB8.out HG.out.lt)
      have kg8 : g < w8.heap.size := Nat.lt_of_lt_of_le kg hbel.size
      clear hbel hp hq hr kg HG7 HB7
      have hp := hp8
      have hq := hq8
      have hr := hr8
      have kg := kg8
      clear hp8 hq8 hr8 kg8
      go_wp2_with fail
      refine (FF.out.cback _ HG8.out).mono ?_
      rintro e w9 ⟨rfl, hbel⟩
      have hp9 := (hbel.cell (p := ⟨g, 0, none⟩) kg).trans hp
      have hq9 := (hbel.cell (p := ⟨g, 1, none⟩) kg).trans hq
      have hr9 := (hbel.cell (p := ⟨g, 2, none⟩) kg).trans hr
      have HB9 := Lib.hid (HB8.out.trans (((show Below w8.heap.size w8 _ from by repeat (first | exact Below.refl _ _ | refine Below.drew ?_ | refine below_drewN' ?_)).trans (show Below w8.heap.size _ w9 from hbel)).mono HB8.out.size))
      have HG9 := Lib.hid (HG.out.below HB9.out HG.out.lt)
      have kg9 : g < w9.heap.size := Nat.lt_of_lt_of_le kg hbel.size
      clear hbel hp hq hr kg HG8 HB8
      have hp := hp9
      have hq := hq9
      have hr := hr9
      have kg := kg9
      clear hp9 hq9 hr9 kg9
      go_wp2_with fail
      go_region_held3 (fun w' => w'.cell? ⟨g, 0, none⟩ = some (.int .i64 p) ∧ w'.cell? ⟨g, 1, none⟩ = some (.int .i64 q) ∧ w'.cell? ⟨g, 2, none⟩ = some (.int .i64 r)) (first | (exact ⟨(hbel.cell (p := ⟨g, 0, none⟩) kg).trans hp, (hbel.cell (p := ⟨g, 1, none⟩) kg).trans hq, (hbel.cell (p := ⟨g, 2, none⟩) kg).trans hr⟩) | go_keep)
        (first | (go_at_call 18; refine (FF.out.csat _ ?_).mono ?_; (exact HG9.out); rintro e w10 ⟨rfl, hbel⟩; have hp10 := (hbel.cell (p := ⟨g, 0, none⟩) kg).trans hp; have hq10 := (hbel.cell (p := ⟨g, 1, none⟩) kg).trans hq; have hr10 := (hbel.cell (p := ⟨g, 2, none⟩) kg).trans hr))
      have HB10 := Lib.hid (HB9.out.trans (((show Below w9.heap.size w9 _ from by repeat (first | exact Below.refl _ _ | refine Below.drew ?_ | refine below_drewN' ?_)).trans (show Below w9.heap.size _ w10 from hbel)).mono HB9.out.size))
      have HG10 := Lib.hid (HG.out.below HB10.out HG.out.lt)
      have kg10 : g < w10.heap.size := Nat.lt_of_lt_of_le kg hbel.size
      clear hbel hp hq hr kg HG9 HB9
      have hp := hp10
      have hq := hq10
      have hr := hr10
      have kg := kg10
      clear hp10 hq10 hr10 kg10
      go_wp2_with fail
      go_region_held3 (fun w' => w'.cell? ⟨g, 0, none⟩ = some (.int .i64 p) ∧ w'.cell? ⟨g, 1, none⟩ = some (.int .i64 q) ∧ w'.cell? ⟨g, 2, none⟩ = some (.int .i64 r)) (first | (exact ⟨(hbel.cell (p := ⟨g, 0, none⟩) kg).trans hp, (hbel.cell (p := ⟨g, 1, none⟩) kg).trans hq, (hbel.cell (p := ⟨g, 2, none⟩) kg).trans hr⟩) | go_keep)
        (first | (go_at_call 18; refine (FF.out.csign _ ?_).mono ?_; (exact HG10.out); rintro e w11 ⟨rfl, hbel⟩; have hp11 := (hbel.cell (p := ⟨g, 0, none⟩) kg).trans hp; have hq11 := (hbel.cell (p := ⟨g, 1, none⟩) kg).trans hq; have hr11 := (hbel.cell (p := ⟨g, 2, none⟩) kg).trans hr))
      have HB11 := Lib.hid (HB10.out.trans (((show Below w10.heap.size w10 _ from by repeat (first | exact Below.refl _ _ | refine Below.drew ?_ | refine below_drewN' ?_)).trans (show Below w10.heap.size _ w11 from hbel)).mono HB10.out.size))
      have HG11 := Lib.hid (HG.out.below HB11.out HG.out.lt)
      have kg11 : g < w11.heap.size := Nat.lt_of_lt_of_le kg hbel.size
      clear hbel hp hq hr kg HG10 HB10
      have hp := hp11
      have hq := hq11
      have hr := hr11
      have kg := kg11
      clear hp11 hq11 hr11 kg11
      go_wp2_with fail
      refine (FF.out.sa _).mono ?_
      rintro e w' ⟨rfl, rfl⟩
      go_wp2_with fail
      refine (FF.out.sc _).mono ?_
      rintro e w' ⟨rfl, rfl⟩
      go_wp2_with fail
      refine (FF.out.sd _).mono ?_
      rintro e w' ⟨rfl, rfl⟩
      obtain ⟨na1, na2⟩ := FF.out.na
      obtain ⟨nc1, nc2⟩ := FF.out.nc
      go_wp2_with fail
      refine (FF.out.wo _).mono ?_
      rintro e w' ⟨rfl, rfl⟩
      have np := FF.out.np
      have nq := FF.out.nq
      have bp := FF.out.bp.1
      have bq := FF.out.bq.1
      have s1 := FF.out.s1
      have s2 := FF.out.s2
      have s3 := FF.out.s3
      have t1 := FF.out.t1
      have t2 := FF.out.t2
      have hbb := HB.out
      have hwr : IntKind.i64.wrap (p + q) = p + q := IntWalk.i64_in _ (by omega)
      clear FF CC CA OP HG11 HG HB
      have T1 := Lib.hid t1; clear t1
      have T2 := Lib.hid t2; clear t2
      go_upto_region 25 with (fail)
      rcases hbb with rfl | rfl | rfl
      · rw [show Wd.hf 4 = 8 from by decide] at s1 s2 s3
        rcases (show (-8 ≤ a + c ∧ a + c < 8 ∧ sign = sum) ∨ (8 ≤ a + c ∧ d = 7) ∨ (a + c < -8 ∧ d = -8) from by
          by_cases h1 : -8 ≤ a + c
          · by_cases h2 : a + c < 8
            · exact .inl ⟨h1, h2, s1 h1 h2⟩
            · exact .inr (.inl ⟨by omega, by have := s2 (by omega); omega⟩)
          · exact .inr (.inr ⟨by omega, s3 (by omega)⟩)) with ⟨h1, h2, rfl⟩ | ⟨h1, rfl⟩ | ⟨h1, rfl⟩
        · as_aux_lemma =>
          have e1 : decide (-8 ≤ a + c) = true := decide_eq_true (by omega)
          have e2 : decide (a + c < 8) = true := decide_eq_true (by omega)
          have e3 : decide (8 ≤ a + c) = false := decide_eq_false (by omega)
          have e4 : decide (a + c < -8) = false := decide_eq_false (by omega)
          clear s1 s2 s3
          go_wp2_with fail
          have t1 := T1.out
          have t2 := T2.out
          rw [show Wd.pw 4 = 16 from by decide] at t1 t2
          rcases (show (p + q ≤ 15 ∧ sat = sign) ∨ (15 < p + q ∧ sat = 15) from by
            by_cases h : p + q < 16
            · exact .inl ⟨by omega, t1 h⟩
            · exact .inr ⟨by omega, by have := t2 (by omega); omega⟩) with ⟨k1, rfl⟩ | ⟨k1, rfl⟩
          · have f1 : decide (p + q ≤ 15) = true := decide_eq_true (by omega)
            have f2 : decide (15 < p + q) = false := decide_eq_false (by omega)
            clear t1 t2 T1 T2
            go_quiet (fail)
            go_wp2
            go_ret
            exact ⟨rfl, HB11.out.trans (show Below w.heap.size w11 _ from by repeat (first | exact Below.refl _ _ | refine Below.drew ?_ | refine below_drewN' ?_))⟩
          · have f1 : decide (p + q ≤ 15) = false := decide_eq_false (by omega)
            have f2 : decide (15 < p + q) = true := decide_eq_true (by omega)
            clear t1 t2 T1 T2
            go_quiet (fail)
            go_wp2
            go_ret
            exact ⟨rfl, HB11.out.trans (show Below w.heap.size w11 _ from by repeat (first | exact Below.refl _ _ | refine Below.drew ?_ | refine below_drewN' ?_))⟩
        · as_aux_lemma =>
          have e1 : decide (-8 ≤ a + c) = true := decide_eq_true (by omega)
          have e2 : decide (a + c < 8) = false := decide_eq_false (by omega)
          have e3 : decide (8 ≤ a + c) = true := decide_eq_true (by omega)
          have e4 : decide (a + c < -8) = false := decide_eq_false (by omega)
          clear s1 s2 s3
          go_wp2_with fail
          have t1 := T1.out
          have t2 := T2.out
          rw [show Wd.pw 4 = 16 from by decide] at t1 t2
          rcases (show (p + q ≤ 15 ∧ sat = sum) ∨ (15 < p + q ∧ sat = 15) from by
            by_cases h : p + q < 16
            · exact .inl ⟨by omega, t1 h⟩
            · exact .inr ⟨by omega, by have := t2 (by omega); omega⟩) with ⟨k1, rfl⟩ | ⟨k1, rfl⟩
          · have f1 : decide (p + q ≤ 15) = true := decide_eq_true (by omega)
            have f2 : decide (15 < p + q) = false := decide_eq_false (by omega)
            clear t1 t2 T1 T2
            go_quiet (fail)
            go_wp2
            go_ret
            exact ⟨rfl, HB11.out.trans (show Below w.heap.size w11 _ from by repeat (first | exact Below.refl _ _ | refine Below.drew ?_ | refine below_drewN' ?_))⟩
          · have f1 : decide (p + q ≤ 15) = false := decide_eq_false (by omega)
            have f2 : decide (15 < p + q) = true := decide_eq_true (by omega)
            clear t1 t2 T1 T2
            go_quiet (fail)
            go_wp2
            go_ret
            exact ⟨rfl, HB11.out.trans (show Below w.heap.size w11 _ from by repeat (first | exact Below.refl _ _ | refine Below.drew ?_ | refine below_drewN' ?_))⟩
        · as_aux_lemma =>
          have e1 : decide (-8 ≤ a + c) = false := decide_eq_false (by omega)
          have e2 : decide (a + c < 8) = true := decide_eq_true (by omega)
          have e3 : decide (8 ≤ a + c) = false := decide_eq_false (by omega)
          have e4 : decide (a + c < -8) = true := decide_eq_true (by omega)
          clear s1 s2 s3
          go_wp2_with fail
          have t1 := T1.out
          have t2 := T2.out
          rw [show Wd.pw 4 = 16 from by decide] at t1 t2
          rcases (show (p + q ≤ 15 ∧ sat = sum) ∨ (15 < p + q ∧ sat = 15) from by
            by_cases h : p + q < 16
            · exact .inl ⟨by omega, t1 h⟩
            · exact .inr ⟨by omega, by have := t2 (by omega); omega⟩) with ⟨k1, rfl⟩ | ⟨k1, rfl⟩
          · have f1 : decide (p + q ≤ 15) = true := decide_eq_true (by omega)
            have f2 : decide (15 < p + q) = false := decide_eq_false (by omega)
            clear t1 t2 T1 T2
            go_quiet (fail)
            go_wp2
            go_ret
            exact ⟨rfl, HB11.out.trans (show Below w.heap.size w11 _ from by repeat (first | exact Below.refl _ _ | refine Below.drew ?_ | refine below_drewN' ?_))⟩
          · have f1 : decide (p + q ≤ 15) = false := decide_eq_false (by omega)
            have f2 : decide (15 < p + q) = true := decide_eq_true (by omega)
            clear t1 t2 T1 T2
            go_quiet (fail)
            go_wp2
            go_ret
            exact ⟨rfl, HB11.out.trans (show Below w.heap.size w11 _ from by repeat (first | exact Below.refl _ _ | refine Below.drew ?_ | refine below_drewN' ?_))⟩
      · rw [show Wd.hf 8 = 128 from by decide] at s1 s2 s3
        rcases (show (-128 ≤ a + c ∧ a + c < 128 ∧ sign = sum) ∨ (128 ≤ a + c ∧ d = 127) ∨ (a + c < -128 ∧ d = -128) from by
          by_cases h1 : -128 ≤ a + c
          · by_cases h2 : a + c < 128
            · exact .inl ⟨h1, h2, s1 h1 h2⟩
            · exact .inr (.inl ⟨by omega, by have := s2 (by omega); omega⟩)
          · exact .inr (.inr ⟨by omega, s3 (by omega)⟩)) with ⟨h1, h2, rfl⟩ | ⟨h1, rfl⟩ | ⟨h1, rfl⟩
        · as_aux_lemma =>
          have e1 : decide (-128 ≤ a + c) = true := decide_eq_true (by omega)
          have e2 : decide (a + c < 128) = true := decide_eq_true (by omega)
          have e3 : decide (128 ≤ a + c) = false := decide_eq_false (by omega)
          have e4 : decide (a + c < -128) = false := decide_eq_false (by omega)
          clear s1 s2 s3
          go_wp2_with fail
          have t1 := T1.out
          have t2 := T2.out
          rw [show Wd.pw 8 = 256 from by decide] at t1 t2
          rcases (show (p + q ≤ 255 ∧ sat = sign) ∨ (255 < p + q ∧ sat = 255) from by
            by_cases h : p + q < 256
            · exact .inl ⟨by omega, t1 h⟩
            · exact .inr ⟨by omega, by have := t2 (by omega); omega⟩) with ⟨k1, rfl⟩ | ⟨k1, rfl⟩
          · have f1 : decide (p + q ≤ 255) = true := decide_eq_true (by omega)
            have f2 : decide (255 < p + q) = false := decide_eq_false (by omega)
            clear t1 t2 T1 T2
            go_quiet (fail)
            go_wp2
            go_ret
            exact ⟨rfl, HB11.out.trans (show Below w.heap.size w11 _ from by repeat (first | exact Below.refl _ _ | refine Below.drew ?_ | refine below_drewN' ?_))⟩
          · have f1 : decide (p + q ≤ 255) = false := decide_eq_false (by omega)
            have f2 : decide (255 < p + q) = true := decide_eq_true (by omega)
            clear t1 t2 T1 T2
            go_quiet (fail)
            go_wp2
            go_ret
            exact ⟨rfl, HB11.out.trans (show Below w.heap.size w11 _ from by repeat (first | exact Below.refl _ _ | refine Below.drew ?_ | refine below_drewN' ?_))⟩
        · as_aux_lemma =>
          have e1 : decide (-128 ≤ a + c) = true := decide_eq_true (by omega)
          have e2 : decide (a + c < 128) = false := decide_eq_false (by omega)
          have e3 : decide (128 ≤ a + c) = true := decide_eq_true (by omega)
          have e4 : decide (a + c < -128) = false := decide_eq_false (by omega)
          clear s1 s2 s3
          go_wp2_with fail
          have t1 := T1.out
          have t2 := T2.out
          rw [show Wd.pw 8 = 256 from by decide] at t1 t2
          rcases (show (p + q ≤ 255 ∧ sat = sum) ∨ (255 < p + q ∧ sat = 255) from by
            by_cases h : p + q < 256
            · exact .inl ⟨by omega, t1 h⟩
            · exact .inr ⟨by omega, by have := t2 (by omega); omega⟩) with ⟨k1, rfl⟩ | ⟨k1, rfl⟩
          · have f1 : decide (p + q ≤ 255) = true := decide_eq_true (by omega)
            have f2 : decide (255 < p + q) = false := decide_eq_false (by omega)
            clear t1 t2 T1 T2
            go_quiet (fail)
            go_wp2
            go_ret
            exact ⟨rfl, HB11.out.trans (show Below w.heap.size w11 _ from by repeat (first | exact Below.refl _ _ | refine Below.drew ?_ | refine below_drewN' ?_))⟩
          · have f1 : decide (p + q ≤ 255) = false := decide_eq_false (by omega)
            have f2 : decide (255 < p + q) = true := decide_eq_true (by omega)
            clear t1 t2 T1 T2
            go_quiet (fail)
            go_wp2
            go_ret
            exact ⟨rfl, HB11.out.trans (show Below w.heap.size w11 _ from by repeat (first | exact Below.refl _ _ | refine Below.drew ?_ | refine below_drewN' ?_))⟩
        · as_aux_lemma =>
          have e1 : decide (-128 ≤ a + c) = false := decide_eq_false (by omega)
          have e2 : decide (a + c < 128) = true := decide_eq_true (by omega)
          have e3 : decide (128 ≤ a + c) = false := decide_eq_false (by omega)
          have e4 : decide (a + c < -128) = true := decide_eq_true (by omega)
          clear s1 s2 s3
          go_wp2_with fail
          have t1 := T1.out
          have t2 := T2.out
          rw [show Wd.pw 8 = 256 from by decide] at t1 t2
          rcases (show (p + q ≤ 255 ∧ sat = sum) ∨ (255 < p + q ∧ sat = 255) from by
            by_cases h : p + q < 256
            · exact .inl ⟨by omega, t1 h⟩
            · exact .inr ⟨by omega, by have := t2 (by omega); omega⟩) with ⟨k1, rfl⟩ | ⟨k1, rfl⟩
          · have f1 : decide (p + q ≤ 255) = true := decide_eq_true (by omega)
            have f2 : decide (255 < p + q) = false := decide_eq_false (by omega)
            clear t1 t2 T1 T2
            go_quiet (fail)
            go_wp2
            go_ret
            exact ⟨rfl, HB11.out.trans (show Below w.heap.size w11 _ from by repeat (first | exact Below.refl _ _ | refine Below.drew ?_ | refine below_drewN' ?_))⟩
          · have f1 : decide (p + q ≤ 255) = false := decide_eq_false (by omega)
            have f2 : decide (255 < p + q) = true := decide_eq_true (by omega)
            clear t1 t2 T1 T2
            go_quiet (fail)
            go_wp2
            go_ret
            exact ⟨rfl, HB11.out.trans (show Below w.heap.size w11 _ from by repeat (first | exact Below.refl _ _ | refine Below.drew ?_ | refine below_drewN' ?_))⟩
      · rw [show Wd.hf 16 = 32768 from by decide] at s1 s2 s3
        rcases (show (-32768 ≤ a + c ∧ a + c < 32768 ∧ sign = sum) ∨ (32768 ≤ a + c ∧ d = 32767) ∨ (a + c < -32768 ∧ d = -32768) from by
          by_cases h1 : -32768 ≤ a + c
          · by_cases h2 : a + c < 32768
            · exact .inl ⟨h1, h2, s1 h1 h2⟩
            · exact .inr (.inl ⟨by omega, by have := s2 (by omega); omega⟩)
          · exact .inr (.inr ⟨by omega, s3 (by omega)⟩)) with ⟨h1, h2, rfl⟩ | ⟨h1, rfl⟩ | ⟨h1, rfl⟩
        · as_aux_lemma =>
          have e1 : decide (-32768 ≤ a + c) = true := decide_eq_true (by omega)
          have e2 : decide (a + c < 32768) = true := decide_eq_true (by omega)
          have e3 : decide (32768 ≤ a + c) = false := decide_eq_false (by omega)
          have e4 : decide (a + c < -32768) = false := decide_eq_false (by omega)
          clear s1 s2 s3
          go_wp2_with fail
          have t1 := T1.out
          have t2 := T2.out
          rw [show Wd.pw 16 = 65536 from by decide] at t1 t2
          rcases (show (p + q ≤ 65535 ∧ sat = sign) ∨ (65535 < p + q ∧ sat = 65535) from by
            by_cases h : p + q < 65536
            · exact .inl ⟨by omega, t1 h⟩
            · exact .inr ⟨by omega, by have := t2 (by omega); omega⟩) with ⟨k1, rfl⟩ | ⟨k1, rfl⟩
          · have f1 : decide (p + q ≤ 65535) = true := decide_eq_true (by omega)
            have f2 : decide (65535 < p + q) = false := decide_eq_false (by omega)
            clear t1 t2 T1 T2
            go_quiet (fail)
            go_wp2
            go_ret
            exact ⟨rfl, HB11.out.trans (show Below w.heap.size w11 _ from by repeat (first | exact Below.refl _ _ | refine Below.drew ?_ | refine below_drewN' ?_))⟩
          · have f1 : decide (p + q ≤ 65535) = false := decide_eq_false (by omega)
            have f2 : decide (65535 < p + q) = true := decide_eq_true (by omega)
            clear t1 t2 T1 T2
            go_quiet (fail)
            go_wp2
            go_ret
            exact ⟨rfl, HB11.out.trans (show Below w.heap.size w11 _ from by repeat (first | exact Below.refl _ _ | refine Below.drew ?_ | refine below_drewN' ?_))⟩
        · as_aux_lemma =>
          have e1 : decide (-32768 ≤ a + c) = true := decide_eq_true (by omega)
          have e2 : decide (a + c < 32768) = false := decide_eq_false (by omega)
          have e3 : decide (32768 ≤ a + c) = true := decide_eq_true (by omega)
          have e4 : decide (a + c < -32768) = false := decide_eq_false (by omega)
          clear s1 s2 s3
          go_wp2_with fail
          have t1 := T1.out
          have t2 := T2.out
          rw [show Wd.pw 16 = 65536 from by decide] at t1 t2
          rcases (show (p + q ≤ 65535 ∧ sat = sum) ∨ (65535 < p + q ∧ sat = 65535) from by
            by_cases h : p + q < 65536
            · exact .inl ⟨by omega, t1 h⟩
            · exact .inr ⟨by omega, by have := t2 (by omega); omega⟩) with ⟨k1, rfl⟩ | ⟨k1, rfl⟩
          · have f1 : decide (p + q ≤ 65535) = true := decide_eq_true (by omega)
            have f2 : decide (65535 < p + q) = false := decide_eq_false (by omega)
            clear t1 t2 T1 T2
            go_quiet (fail)
            go_wp2
            go_ret
            exact ⟨rfl, HB11.out.trans (show Below w.heap.size w11 _ from by repeat (first | exact Below.refl _ _ | refine Below.drew ?_ | refine below_drewN' ?_))⟩
          · have f1 : decide (p + q ≤ 65535) = false := decide_eq_false (by omega)
            have f2 : decide (65535 < p + q) = true := decide_eq_true (by omega)
            clear t1 t2 T1 T2
            go_quiet (fail)
            go_wp2
            go_ret
            exact ⟨rfl, HB11.out.trans (show Below w.heap.size w11 _ from by repeat (first | exact Below.refl _ _ | refine Below.drew ?_ | refine below_drewN' ?_))⟩
        · as_aux_lemma =>
          have e1 : decide (-32768 ≤ a + c) = false := decide_eq_false (by omega)
          have e2 : decide (a + c < 32768) = true := decide_eq_true (by omega)
          have e3 : decide (32768 ≤ a + c) = false := decide_eq_false (by omega)
          have e4 : decide (a + c < -32768) = true := decide_eq_true (by omega)
          clear s1 s2 s3
          go_wp2_with fail
          have t1 := T1.out
          have t2 := T2.out
          rw [show Wd.pw 16 = 65536 from by decide] at t1 t2
          rcases (show (p + q ≤ 65535 ∧ sat = sum) ∨ (65535 < p + q ∧ sat = 65535) from by
            by_cases h : p + q < 65536
            · exact .inl ⟨by omega, t1 h⟩
            · exact .inr ⟨by omega, by have := t2 (by omega); omega⟩) with ⟨k1, rfl⟩ | ⟨k1, rfl⟩
          · have f1 : decide (p + q ≤ 65535) = true := decide_eq_true (by omega)
            have f2 : decide (65535 < p + q) = false := decide_eq_false (by omega)
            clear t1 t2 T1 T2
            go_quiet (fail)
            go_wp2
            go_ret
            exact ⟨rfl, HB11.out.trans (show Below w.heap.size w11 _ from by repeat (first | exact Below.refl _ _ | refine Below.drew ?_ | refine below_drewN' ?_))⟩
          · have f1 : decide (p + q ≤ 65535) = false := decide_eq_false (by omega)
            have f2 : decide (65535 < p + q) = true := decide_eq_true (by omega)
            clear t1 t2 T1 T2
            go_quiet (fail)
            go_wp2
            go_ret
            exact ⟨rfl, HB11.out.trans (show Below w.heap.size w11 _ from by repeat (first | exact Below.refl _ _ | refine Below.drew ?_ | refine below_drewN' ?_))⟩
    · as_aux_lemma =>
      clear hcc haa hca
      go_wp2_with fail
      refine (FF.out.cu _ HG5.out).mono ?_
      rintro e w6 ⟨rfl, hbel⟩
      have hp6 := (hbel.cell (p := ⟨g, 0, none⟩) kg).trans hp
      have hq6 := (hbel.cell (p := ⟨g, 1, none⟩) kg).trans hq
      have hr6 := (hbel.cell (p := ⟨g, 2, none⟩) kg).trans hr
      have HB6 := Lib.hid (HB5.out.trans (((show Below w5.heap.size w5 _ from by repeat (first | exact Below.refl _ _ | refine Below.drew ?_ | refine below_drewN' ?_)).trans (show Below w5.heap.size _ w6 from hbel)).mono HB5.out.size))
      have HG6 := Lib.hid (HG.out.below HB6.out HG.out.lt)
      have kg6 : g < w6.heap.size := Nat.lt_of_lt_of_le kg hbel.size
      clear hbel hp hq hr kg HG5 HB5
      have hp := hp6
      have hq := hq6
      have hr := hr6
      have kg := kg6
      clear hp6 hq6 hr6 kg6
      go_wp2_with fail
      refine (FF.out.cv _ HG6.out).mono ?_
      rintro e w7 ⟨rfl, hbel⟩
      have hp7 := (hbel.cell (p := ⟨g, 0, none⟩) kg).trans hp
      have hq7 := (hbel.cell (p := ⟨g, 1, none⟩) kg).trans hq
      have hr7 := (hbel.cell (p := ⟨g, 2, none⟩) kg).trans hr
      have HB7 := Lib.hid (HB6.out.trans (((show Below w6.heap.size w6 _ from by repeat (first | exact Below.refl _ _ | refine Below.drew ?_ | refine below_drewN' ?_)).trans (show Below w6.heap.size _ w7 from hbel)).mono HB6.out.size))
      have HG7 := Lib.hid (HG.out.below HB7.out HG.out.lt)
      have kg7 : g < w7.heap.size := Nat.lt_of_lt_of_le kg hbel.size
      clear hbel hp hq hr kg HG6 HB6
      have hp := hp7
      have hq := hq7
      have hr := hr7
      have kg := kg7
      clear hp7 hq7 hr7 kg7
      go_wp2_with fail
      refine (CA.out _).mono ?_
      rintro e w' ⟨rfl, rfl⟩
      go_wp2_with fail
      refine (CA.out _).mono ?_
      rintro e w' ⟨rfl, rfl⟩
      go_wp2_with fail
      go_region_held3 (fun w' => w'.cell? ⟨g, 0, none⟩ = some (.int .i64 p) ∧ w'.cell? ⟨g, 1, none⟩ = some (.int .i64 q) ∧ w'.cell? ⟨g, 2, none⟩ = some (.int .i64 r)) (first | (exact ⟨(hbel.cell (p := ⟨g, 0, none⟩) kg).trans hp, (hbel.cell (p := ⟨g, 1, none⟩) kg).trans hq, (hbel.cell (p := ⟨g, 2, none⟩) kg).trans hr⟩) | go_keep)
        (first | (go_at_call 18; refine (FF.out.csum _ ?_).mono ?_; (exact HG7.out); rintro e w8 ⟨rfl, hbel⟩; have hp8 := (hbel.cell (p := ⟨g, 0, none⟩) kg).trans hp; have hq8 := (hbel.cell (p := ⟨g, 1, none⟩) kg).trans hq; have hr8 := (hbel.cell (p := ⟨g, 2, none⟩) kg).trans hr))
      have HB8 := Lib.hid (HB7.out.trans (((show Below w7.heap.size w7 _ from by repeat (first | exact Below.refl _ _ | refine Below.drew ?_ | refine below_drewN' ?_)).trans (show Below w7.heap.size _ w8 from hbel)).mono HB7.out.size))
      have HG8 := Lib.hid (HG.out.below HB8.out HG.out.lt)
      have kg8 : g < w8.heap.size := Nat.lt_of_lt_of_le kg hbel.size
      clear hbel hp hq hr kg HG7 HB7
      have hp := hp8
      have hq := hq8
      have hr := hr8
      have kg := kg8
      clear hp8 hq8 hr8 kg8
      go_wp2_with fail
      refine (FF.out.cback _ HG8.out).mono ?_
      rintro e w9 ⟨rfl, hbel⟩
      have hp9 := (hbel.cell (p := ⟨g, 0, none⟩) kg).trans hp
      have hq9 := (hbel.cell (p := ⟨g, 1, none⟩) kg).trans hq
      have hr9 := (hbel.cell (p := ⟨g, 2, none⟩) kg).trans hr
      have HB9 := Lib.hid (HB8.out.trans (((show Below w8.heap.size w8 _ from by repeat (first | exact Below.refl _ _ | refine Below.drew ?_ | refine below_drewN' ?_)).trans (show Below w8.heap.size _ w9 from hbel)).mono HB8.out.size))
      have HG9 := Lib.hid (HG.out.below HB9.out HG.out.lt)
      have kg9 : g < w9.heap.size := Nat.lt_of_lt_of_le kg hbel.size
      clear hbel hp hq hr kg HG8 HB8
      have hp := hp9
      have hq := hq9
      have hr := hr9
      have kg := kg9
      clear hp9 hq9 hr9 kg9
      go_wp2_with fail
      go_region_held3 (fun w' => w'.cell? ⟨g, 0, none⟩ = some (.int .i64 p) ∧ w'.cell? ⟨g, 1, none⟩ = some (.int .i64 q) ∧ w'.cell? ⟨g, 2, none⟩ = some (.int .i64 r)) (first | (exact ⟨(hbel.cell (p := ⟨g, 0, none⟩) kg).trans hp, (hbel.cell (p := ⟨g, 1, none⟩) kg).trans hq, (hbel.cell (p := ⟨g, 2, none⟩) kg).trans hr⟩) | go_keep)
        (first | (go_at_call 18; refine (FF.out.csat _ ?_).mono ?_; (exact HG9.out); rintro e w10 ⟨rfl, hbel⟩; have hp10 := (hbel.cell (p := ⟨g, 0, none⟩) kg).trans hp; have hq10 := (hbel.cell (p := ⟨g, 1, none⟩) kg).trans hq; have hr10 := (hbel.cell (p := ⟨g, 2, none⟩) kg).trans hr))
      have HB10 := Lib.hid (HB9.out.trans (((show Below w9.heap.size w9 _ from by repeat (first | exact Below.refl _ _ | refine Below.drew ?_ | refine below_drewN' ?_)).trans (show Below w9.heap.size _ w10 from hbel)).mono HB9.out.size))
      have HG10 := Lib.hid (HG.out.below HB10.out HG.out.lt)
      have kg10 : g < w10.heap.size := Nat.lt_of_lt_of_le kg hbel.size
      clear hbel hp hq hr kg HG9 HB9
      have hp := hp10
      have hq := hq10
      have hr := hr10
      have kg := kg10
      clear hp10 hq10 hr10 kg10
      go_wp2_with fail
      go_region_held3 (fun w' => w'.cell? ⟨g, 0, none⟩ = some (.int .i64 p) ∧ w'.cell? ⟨g, 1, none⟩ = some (.int .i64 q) ∧ w'.cell? ⟨g, 2, none⟩ = some (.int .i64 r)) (first | (exact ⟨(hbel.cell (p := ⟨g, 0, none⟩) kg).trans hp, (hbel.cell (p := ⟨g, 1, none⟩) kg).trans hq, (hbel.cell (p := ⟨g, 2, none⟩) kg).trans hr⟩) | go_keep)
        (first | (go_at_call 18; refine (FF.out.csign _ ?_).mono ?_; (exact HG10.out); rintro e w11 ⟨rfl, hbel⟩; have hp11 := (hbel.cell (p := ⟨g, 0, none⟩) kg).trans hp; have hq11 := (hbel.cell (p := ⟨g, 1, none⟩) kg).trans hq; have hr11 := (hbel.cell (p := ⟨g, 2, none⟩) kg).trans hr))
      have HB11 := Lib.hid (HB10.out.trans (((show Below w10.heap.size w10 _ from by repeat (first | exact Below.refl _ _ | refine Below.drew ?_ | refine below_drewN' ?_)).trans (show Below w10.heap.size _ w11 from hbel)).mono HB10.out.size))
      have HG11 := Lib.hid (HG.out.below HB11.out HG.out.lt)
      have kg11 : g < w11.heap.size := Nat.lt_of_lt_of_le kg hbel.size
      clear hbel hp hq hr kg HG10 HB10
      have hp := hp11
      have hq := hq11
      have hr := hr11
      have kg := kg11
      clear hp11 hq11 hr11 kg11
      go_wp2_with fail
      refine (FF.out.sa _).mono ?_
      rintro e w' ⟨rfl, rfl⟩
      go_wp2_with fail
      refine (FF.out.sc _).mono ?_
      rintro e w' ⟨rfl, rfl⟩
      go_wp2_with fail
      refine (FF.out.sd _).mono ?_
      rintro e w' ⟨rfl, rfl⟩
      obtain ⟨na1, na2⟩ := FF.out.na
      obtain ⟨nc1, nc2⟩ := FF.out.nc
      go_wp2_with fail
      refine (FF.out.wo _).mono ?_
      rintro e w' ⟨rfl, rfl⟩
      have np := FF.out.np
      have nq := FF.out.nq
      have bp := FF.out.bp.1
      have bq := FF.out.bq.1
      have s1 := FF.out.s1
      have s2 := FF.out.s2
      have s3 := FF.out.s3
      have t1 := FF.out.t1
      have t2 := FF.out.t2
      have hbb := HB.out
      have hwr : IntKind.i64.wrap (p + q) = p + q := IntWalk.i64_in _ (by omega)
      clear FF CC CA OP HG11 HG HB
      have T1 := Lib.hid t1; clear t1
      have T2 := Lib.hid t2; clear t2
      go_upto_region 25 with (fail)
      rcases hbb with rfl | rfl | rfl
      · rw [show Wd.hf 4 = 8 from by decide] at s1 s2 s3
        rcases (show (-8 ≤ a + c ∧ a + c < 8 ∧ sign = sum) ∨ (8 ≤ a + c ∧ d = 7) ∨ (a + c < -8 ∧ d = -8) from by
          by_cases h1 : -8 ≤ a + c
          · by_cases h2 : a + c < 8
            · exact .inl ⟨h1, h2, s1 h1 h2⟩
            · exact .inr (.inl ⟨by omega, by have := s2 (by omega); omega⟩)
          · exact .inr (.inr ⟨by omega, s3 (by omega)⟩)) with ⟨h1, h2, rfl⟩ | ⟨h1, rfl⟩ | ⟨h1, rfl⟩
        · as_aux_lemma =>
          have e1 : decide (-8 ≤ a + c) = true := decide_eq_true (by omega)
          have e2 : decide (a + c < 8) = true := decide_eq_true (by omega)
          have e3 : decide (8 ≤ a + c) = false := decide_eq_false (by omega)
          have e4 : decide (a + c < -8) = false := decide_eq_false (by omega)
          clear s1 s2 s3
          go_wp2_with fail
          have t1 := T1.out
          have t2 := T2.out
          rw [show Wd.pw 4 = 16 from by decide] at t1 t2
          rcases (show (p + q ≤ 15 ∧ sat = sign) ∨ (15 < p + q ∧ sat = 15) from by
            by_cases h : p + q < 16
            · exact .inl ⟨by omega, t1 h⟩
            · exact .inr ⟨by omega, by have := t2 (by omega); omega⟩) with ⟨k1, rfl⟩ | ⟨k1, rfl⟩
          · have f1 : decide (p + q ≤ 15) = true := decide_eq_true (by omega)
            have f2 : decide (15 < p + q) = false := decide_eq_false (by omega)
            clear t1 t2 T1 T2
            go_quiet (fail)
            go_wp2
            go_ret
            exact ⟨rfl, HB11.out.trans (show Below w.heap.size w11 _ from by repeat (first | exact Below.refl _ _ | refine Below.drew ?_ | refine below_drewN' ?_))⟩
          · have f1 : decide (p + q ≤ 15) = false := decide_eq_false (by omega)
            have f2 : decide (15 < p + q) = true := decide_eq_true (by omega)
            clear t1 t2 T1 T2
            go_quiet (fail)
            go_wp2
            go_ret
            exact ⟨rfl, HB11.out.trans (show Below w.heap.size w11 _ from by repeat (first | exact Below.refl _ _ | refine Below.drew ?_ | refine below_drewN' ?_))⟩
        · as_aux_lemma =>
          have e1 : decide (-8 ≤ a + c) = true := decide_eq_true (by omega)
          have e2 : decide (a + c < 8) = false := decide_eq_false (by omega)
          have e3 : decide (8 ≤ a + c) = true := decide_eq_true (by omega)
          have e4 : decide (a + c < -8) = false := decide_eq_false (by omega)
          clear s1 s2 s3
          go_wp2_with fail
          have t1 := T1.out
          have t2 := T2.out
          rw [show Wd.pw 4 = 16 from by decide] at t1 t2
          rcases (show (p + q ≤ 15 ∧ sat = sum) ∨ (15 < p + q ∧ sat = 15) from by
            by_cases h : p + q < 16
            · exact .inl ⟨by omega, t1 h⟩
            · exact .inr ⟨by omega, by have := t2 (by omega); omega⟩) with ⟨k1, rfl⟩ | ⟨k1, rfl⟩
          · have f1 : decide (p + q ≤ 15) = true := decide_eq_true (by omega)
            have f2 : decide (15 < p + q) = false := decide_eq_false (by omega)
            clear t1 t2 T1 T2
            go_quiet (fail)
            go_wp2
            go_ret
            exact ⟨rfl, HB11.out.trans (show Below w.heap.size w11 _ from by repeat (first | exact Below.refl _ _ | refine Below.drew ?_ | refine below_drewN' ?_))⟩
          · have f1 : decide (p + q ≤ 15) = false := decide_eq_false (by omega)
            have f2 : decide (15 < p + q) = true := decide_eq_true (by omega)
            clear t1 t2 T1 T2
            go_quiet (fail)
            go_wp2
            go_ret
            exact ⟨rfl, HB11.out.trans (show Below w.heap.size w11 _ from by repeat (first | exact Below.refl _ _ | refine Below.drew ?_ | refine below_drewN' ?_))⟩
        · as_aux_lemma =>
          have e1 : decide (-8 ≤ a + c) = false := decide_eq_false (by omega)
          have e2 : decide (a + c < 8) = true := decide_eq_true (by omega)
          have e3 : decide (8 ≤ a + c) = false := decide_eq_false (by omega)
          have e4 : decide (a + c < -8) = true := decide_eq_true (by omega)
          clear s1 s2 s3
          go_wp2_with fail
          have t1 := T1.out
          have t2 := T2.out
          rw [show Wd.pw 4 = 16 from by decide] at t1 t2
          rcases (show (p + q ≤ 15 ∧ sat = sum) ∨ (15 < p + q ∧ sat = 15) from by
            by_cases h : p + q < 16
            · exact .inl ⟨by omega, t1 h⟩
            · exact .inr ⟨by omega, by have := t2 (by omega); omega⟩) with ⟨k1, rfl⟩ | ⟨k1, rfl⟩
          · have f1 : decide (p + q ≤ 15) = true := decide_eq_true (by omega)
            have f2 : decide (15 < p + q) = false := decide_eq_false (by omega)
            clear t1 t2 T1 T2
            go_quiet (fail)
            go_wp2
            go_ret
            exact ⟨rfl, HB11.out.trans (show Below w.heap.size w11 _ from by repeat (first | exact Below.refl _ _ | refine Below.drew ?_ | refine below_drewN' ?_))⟩
          · have f1 : decide (p + q ≤ 15) = false := decide_eq_false (by omega)
            have f2 : decide (15 < p + q) = true := decide_eq_true (by omega)
            clear t1 t2 T1 T2
            go_quiet (fail)
            go_wp2
            go_ret
            exact ⟨rfl, HB11.out.trans (show Below w.heap.size w11 _ from by repeat (first | exact Below.refl _ _ | refine Below.drew ?_ | refine below_drewN' ?_))⟩
      · rw [show Wd.hf 8 = 128 from by decide] at s1 s2 s3
        rcases (show (-128 ≤ a + c ∧ a + c < 128 ∧ sign = sum) ∨ (128 ≤ a + c ∧ d = 127) ∨ (a + c < -128 ∧ d = -128) from by
          by_cases h1 : -128 ≤ a + c
          · by_cases h2 : a + c < 128
            · exact .inl ⟨h1, h2, s1 h1 h2⟩
            · exact .inr (.inl ⟨by omega, by have := s2 (by omega); omega⟩)
          · exact .inr (.inr ⟨by omega, s3 (by omega)⟩)) with ⟨h1, h2, rfl⟩ | ⟨h1, rfl⟩ | ⟨h1, rfl⟩
        · as_aux_lemma =>
          have e1 : decide (-128 ≤ a + c) = true := decide_eq_true (by omega)
          have e2 : decide (a + c < 128) = true := decide_eq_true (by omega)
          have e3 : decide (128 ≤ a + c) = false := decide_eq_false (by omega)
          have e4 : decide (a + c < -128) = false := decide_eq_false (by omega)
          clear s1 s2 s3
          go_wp2_with fail
          have t1 := T1.out
          have t2 := T2.out
          rw [show Wd.pw 8 = 256 from by decide] at t1 t2
          rcases (show (p + q ≤ 255 ∧ sat = sign) ∨ (255 < p + q ∧ sat = 255) from by
            by_cases h : p + q < 256
            · exact .inl ⟨by omega, t1 h⟩
            · exact .inr ⟨by omega, by have := t2 (by omega); omega⟩) with ⟨k1, rfl⟩ | ⟨k1, rfl⟩
          · have f1 : decide (p + q ≤ 255) = true := decide_eq_true (by omega)
            have f2 : decide (255 < p + q) = false := decide_eq_false (by omega)
            clear t1 t2 T1 T2
            go_quiet (fail)
            go_wp2
            go_ret
            exact ⟨rfl, HB11.out.trans (show Below w.heap.size w11 _ from by repeat (first | exact Below.refl _ _ | refine Below.drew ?_ | refine below_drewN' ?_))⟩
          · have f1 : decide (p + q ≤ 255) = false := decide_eq_false (by omega)
            have f2 : decide (255 < p + q) = true := decide_eq_true (by omega)
            clear t1 t2 T1 T2
            go_quiet (fail)
            go_wp2
            go_ret
            exact ⟨rfl, HB11.out.trans (show Below w.heap.size w11 _ from by repeat (first | exact Below.refl _ _ | refine Below.drew ?_ | refine below_drewN' ?_))⟩
        · as_aux_lemma =>
          have e1 : decide (-128 ≤ a + c) = true := decide_eq_true (by omega)
          have e2 : decide (a + c < 128) = false := decide_eq_false (by omega)
          have e3 : decide (128 ≤ a + c) = true := decide_eq_true (by omega)
          have e4 : decide (a + c < -128) = false := decide_eq_false (by omega)
          clear s1 s2 s3
          go_wp2_with fail
          have t1 := T1.out
          have t2 := T2.out
          rw [show Wd.pw 8 = 256 from by decide] at t1 t2
          rcases (show (p + q ≤ 255 ∧ sat = sum) ∨ (255 < p + q ∧ sat = 255) from by
            by_cases h : p + q < 256
            · exact .inl ⟨by omega, t1 h⟩
            · exact .inr ⟨by omega, by have := t2 (by omega); omega⟩) with ⟨k1, rfl⟩ | ⟨k1, rfl⟩
          · have f1 : decide (p + q ≤ 255) = true := decide_eq_true (by omega)
            have f2 : decide (255 < p + q) = false := decide_eq_false (by omega)
            clear t1 t2 T1 T2
            go_quiet (fail)
            go_wp2
            go_ret
            exact ⟨rfl, HB11.out.trans (show Below w.heap.size w11 _ from by repeat (first | exact Below.refl _ _ | refine Below.drew ?_ | refine below_drewN' ?_))⟩
          · have f1 : decide (p + q ≤ 255) = false := decide_eq_false (by omega)
            have f2 : decide (255 < p + q) = true := decide_eq_true (by omega)
            clear t1 t2 T1 T2
            go_quiet (fail)
            go_wp2
            go_ret
            exact ⟨rfl, HB11.out.trans (show Below w.heap.size w11 _ from by repeat (first | exact Below.refl _ _ | refine Below.drew ?_ | refine below_drewN' ?_))⟩
        · as_aux_lemma =>
          have e1 : decide (-128 ≤ a + c) = false := decide_eq_false (by omega)
          have e2 : decide (a + c < 128) = true := decide_eq_true (by omega)
          have e3 : decide (128 ≤ a + c) = false := decide_eq_false (by omega)
          have e4 : decide (a + c < -128) = true := decide_eq_true (by omega)
          clear s1 s2 s3
          go_wp2_with fail
          have t1 := T1.out
          have t2 := T2.out
          rw [show Wd.pw 8 = 256 from by decide] at t1 t2
          rcases (show (p + q ≤ 255 ∧ sat = sum) ∨ (255 < p + q ∧ sat = 255) from by
            by_cases h : p + q < 256
            · exact .inl ⟨by omega, t1 h⟩
            · exact .inr ⟨by omega, by have := t2 (by omega); omega⟩) with ⟨k1, rfl⟩ | ⟨k1, rfl⟩
          · have f1 : decide (p + q ≤ 255) = true := decide_eq_true (by omega)
            have f2 : decide (255 < p + q) = false := decide_eq_false (by omega)
            clear t1 t2 T1 T2
            go_quiet (fail)
            go_wp2
            go_ret
            exact ⟨rfl, HB11.out.trans (show Below w.heap.size w11 _ from by repeat (first | exact Below.refl _ _ | refine Below.drew ?_ | refine below_drewN' ?_))⟩
          · have f1 : decide (p + q ≤ 255) = false := decide_eq_false (by omega)
            have f2 : decide (255 < p + q) = true := decide_eq_true (by omega)
            clear t1 t2 T1 T2
            go_quiet (fail)
            go_wp2
            go_ret
            exact ⟨rfl, HB11.out.trans (show Below w.heap.size w11 _ from by repeat (first | exact Below.refl _ _ | refine Below.drew ?_ | refine below_drewN' ?_))⟩
      · rw [show Wd.hf 16 = 32768 from by decide] at s1 s2 s3
        rcases (show (-32768 ≤ a + c ∧ a + c < 32768 ∧ sign = sum) ∨ (32768 ≤ a + c ∧ d = 32767) ∨ (a + c < -32768 ∧ d = -32768) from by
          by_cases h1 : -32768 ≤ a + c
          · by_cases h2 : a + c < 32768
            · exact .inl ⟨h1, h2, s1 h1 h2⟩
            · exact .inr (.inl ⟨by omega, by have := s2 (by omega); omega⟩)
          · exact .inr (.inr ⟨by omega, s3 (by omega)⟩)) with ⟨h1, h2, rfl⟩ | ⟨h1, rfl⟩ | ⟨h1, rfl⟩
        · as_aux_lemma =>
          have e1 : decide (-32768 ≤ a + c) = true := decide_eq_true (by omega)
          have e2 : decide (a + c < 32768) = true := decide_eq_true (by omega)
          have e3 : decide (32768 ≤ a + c) = false := decide_eq_false (by omega)
          have e4 : decide (a + c < -32768) = false := decide_eq_false (by omega)
          clear s1 s2 s3
          go_wp2_with fail
          have t1 := T1.out
          have t2 := T2.out
          rw [show Wd.pw 16 = 65536 from by decide] at t1 t2
          rcases (show (p + q ≤ 65535 ∧ sat = sign) ∨ (65535 < p + q ∧ sat = 65535) from by
            by_cases h : p + q < 65536
            · exact .inl ⟨by omega, t1 h⟩
            · exact .inr ⟨by omega, by have := t2 (by omega); omega⟩) with ⟨k1, rfl⟩ | ⟨k1, rfl⟩
          · have f1 : decide (p + q ≤ 65535) = true := decide_eq_true (by omega)
            have f2 : decide (65535 < p + q) = false := decide_eq_false (by omega)
            clear t1 t2 T1 T2
            go_quiet (fail)
            go_wp2
            go_ret
            exact ⟨rfl, HB11.out.trans (show Below w.heap.size w11 _ from by repeat (first | exact Below.refl _ _ | refine Below.drew ?_ | refine below_drewN' ?_))⟩
          · have f1 : decide (p + q ≤ 65535) = false := decide_eq_false (by omega)
            have f2 : decide (65535 < p + q) = true := decide_eq_true (by omega)
            clear t1 t2 T1 T2
            go_quiet (fail)
            go_wp2
            go_ret
            exact ⟨rfl, HB11.out.trans (show Below w.heap.size w11 _ from by repeat (first | exact Below.refl _ _ | refine Below.drew ?_ | refine below_drewN' ?_))⟩
        · as_aux_lemma =>
          have e1 : decide (-32768 ≤ a + c) = true := decide_eq_true (by omega)
          have e2 : decide (a + c < 32768) = false := decide_eq_false (by omega)
          have e3 : decide (32768 ≤ a + c) = true := decide_eq_true (by omega)
          have e4 : decide (a + c < -32768) = false := decide_eq_false (by omega)
          clear s1 s2 s3
          go_wp2_with fail
          have t1 := T1.out
          have t2 := T2.out
          rw [show Wd.pw 16 = 65536 from by decide] at t1 t2
          rcases (show (p + q ≤ 65535 ∧ sat = sum) ∨ (65535 < p + q ∧ sat = 65535) from by
            by_cases h : p + q < 65536
            · exact .inl ⟨by omega, t1 h⟩
            · exact .inr ⟨by omega, by have := t2 (by omega); omega⟩) with ⟨k1, rfl⟩ | ⟨k1, rfl⟩
          · have f1 : decide (p + q ≤ 65535) = true := decide_eq_true (by omega)
            have f2 : decide (65535 < p + q) = false := decide_eq_false (by omega)
            clear t1 t2 T1 T2
            go_quiet (fail)
            go_wp2
            go_ret
            exact ⟨rfl, HB11.out.trans (show Below w.heap.size w11 _ from by repeat (first | exact Below.refl _ _ | refine Below.drew ?_ | refine below_drewN' ?_))⟩
          · have f1 : decide (p + q ≤ 65535) = false := decide_eq_false (by omega)
            have f2 : decide (65535 < p + q) = true := decide_eq_true (by omega)
            clear t1 t2 T1 T2
            go_quiet (fail)
            go_wp2
            go_ret
            exact ⟨rfl, HB11.out.trans (show Below w.heap.size w11 _ from by repeat (first | exact Below.refl _ _ | refine Below.drew ?_ | refine below_drewN' ?_))⟩
        · as_aux_lemma =>
          have e1 : decide (-32768 ≤ a + c) = false := decide_eq_false (by omega)
          have e2 : decide (a + c < 32768) = true := decide_eq_true (by omega)
          have e3 : decide (32768 ≤ a + c) = false := decide_eq_false (by omega)
          have e4 : decide (a + c < -32768) = true := decide_eq_true (by omega)
          clear s1 s2 s3
          go_wp2_with fail
          have t1 := T1.out
          have t2 := T2.out
          rw [show Wd.pw 16 = 65536 from by decide] at t1 t2
          rcases (show (p + q ≤ 65535 ∧ sat = sum) ∨ (65535 < p + q ∧ sat = 65535) from by
            by_cases h : p + q < 65536
            · exact .inl ⟨by omega, t1 h⟩
            · exact .inr ⟨by omega, by have := t2 (by omega); omega⟩) with ⟨k1, rfl⟩ | ⟨k1, rfl⟩
          · have f1 : decide (p + q ≤ 65535) = true := decide_eq_true (by omega)
            have f2 : decide (65535 < p + q) = false := decide_eq_false (by omega)
            clear t1 t2 T1 T2
            go_quiet (fail)
            go_wp2
            go_ret
            exact ⟨rfl, HB11.out.trans (show Below w.heap.size w11 _ from by repeat (first | exact Below.refl _ _ | refine Below.drew ?_ | refine below_drewN' ?_))⟩
          · have f1 : decide (p + q ≤ 65535) = false := decide_eq_false (by omega)
            have f2 : decide (65535 < p + q) = true := decide_eq_true (by omega)
            clear t1 t2 T1 T2
            go_quiet (fail)
            go_wp2
            go_ret
            exact ⟨rfl, HB11.out.trans (show Below w.heap.size w11 _ from by repeat (first | exact Below.refl _ _ | refine Below.drew ?_ | refine below_drewN' ?_))⟩
end Go.Proofs.YtigodbilfjppbaaGreatDoor.Wds
