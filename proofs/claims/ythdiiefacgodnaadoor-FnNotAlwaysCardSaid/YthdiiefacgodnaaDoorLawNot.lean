/-
  The walk of the law on order and brackets over all words of four bits, and on the texts of operations; for all bytes it returns true and leaves what was there as it was.
-/
import Derived.Test.YthdiiefacgodnaaDoorDraw2
import Derived.Test.YthdiiefacgodnaaDoorDoOp
import Derived.Test.YthdiiefacgodnaaDoorSpecOp
import Derived.Test.YthdiiefacgodnaaDoorAt
import Derived.Test.YthdiiefacgodnaaDoorNotMath
import Derived.Outline
namespace Go.Proofs.YthdiiefacgodnaaDoor.Wds
open Go.RowKit Go.Proofs.YthdiiefacgodnaaDoor.Err
set_option linter.unusedVariables false

def DoIs (op x y r : Int) : Prop := ∀ W : World, ErrT W → Calls Tryd.prog 14 #[.int .i64 op, .int .i64 4, .int .i64 x, .int .i64 y] W fun e w' => e = .returned (.tuple #[.int .i64 r, .bool true]) ∧ Below W.heap.size W w'
theorem doIs {op x y r : Int} (h0 : 0 ≤ op) (h1 : op ≤ 17) (hx : Wd.Wo x) (hy : Wd.Wo y) (hr : r = Wd.doOp op 4 x y) : DoIs op x y r := by
  intro W hg; subst hr
  exact doOp_yes op 4 x y W h0 h1 ⟨Wd.four, by rw [Wd.pw4]; exact hx⟩ ⟨Wd.four, by rw [Wd.pw4]; exact hy⟩ hg
theorem doWo {op x y r : Int} (h0 : 0 ≤ op) (h1 : op ≤ 17) (hx : Wd.Wo x) (hy : Wd.Wo y) (hr : r = Wd.doOp op 4 x y) : Wd.Wo r := by
  subst hr
  have := Wd.doOp_word h0 h1 Wd.four (by rw [Wd.pw4]; exact hx) (by rw [Wd.pw4]; exact hy)
  rw [Wd.pw4] at this; exact this

set_option maxRecDepth 100000 in
set_option maxHeartbeats 16000000 in
theorem law_not (a0 : Option Addr) (len0 cap0 : Nat) (z0 : List Int) (a1 : Option Addr) (len1 cap1 : Nat) (z1 : List Int) (w : World) (r0 : IsRow .u8 w a0 len0 cap0 z0) (r1 : IsRow .u8 w a1 len1 cap1 z1) (hg : ErrT w) (ho : OpT w) :
    Calls Tryd.prog 3 #[.slice a0 len0 cap0, .slice a1 len1 cap1] w fun e w' => e = .returned (.bool true) ∧ Below w.heap.size w w' := by
  have m0 := r0.len_le
  have m1 := r1.len_le
  by_cases hbig : 1048576 < len0 ∨ 1048576 < len1
  · have hlong : decide (1048576 < len0 ∨ 1048576 < len1) = true := decide_eq_true hbig
    clear hbig r0 r1 hg ho
    go_enter Tryd.func3, Tryd.ntmps3
    go_wp2_with fail
    refine (long_any _ _ _ _ _ _ _ m0 m1).mono ?_
    rintro e w' ⟨rfl, rfl⟩
    go_wp2_with fail
    go_ret
    exact ⟨rfl, Below.refl _ _⟩
  have hlong : decide (1048576 < len0 ∨ 1048576 < len1) = false := decide_eq_false hbig
  clear hbig
  have R0 := Lib.hid r0
  have R1 := Lib.hid r1
  have HG := Lib.hid hg
  have HO := Lib.hid ho
  clear r0 r1 hg ho
  go_enter Tryd.func3, Tryd.ntmps3
  go_wp2_with fail
  refine (long_any _ _ _ _ _ _ _ m0 m1).mono ?_
  rintro e w' ⟨rfl, rfl⟩
  go_wp2_with fail
  refine (at_any 0 18 _ _ _ _ _ (by decide) (by decide) (by decide) (by decide) R0.out).mono ?_
  rintro e w' ⟨op, rfl, op0, op1, rfl⟩
  clear hlong m0 m1
  have OP : Hid (0 ≤ op ∧ op ≤ 17) := Lib.hid ⟨op0, by omega⟩
  clear op0 op1
  go_wp2
  go_loopw [8, 6, 7] (fun av ov kv wr => ∃ (a : Nat) (o k : Bool), a ≤ 16 ∧ av = .int .i64 a ∧ ov = .bool o ∧ kv = .bool k ∧ Hid (Wd.Ord op a 0 o ∧ Wd.Brk op a 0 0 k) ∧ Hid (Below w.heap.size w wr)) (fun av _ _ _ => 16 - (intOf av).toNat)
  case atStart => exact ⟨0, true, true, by decide, rfl, rfl, rfl, Lib.hid ⟨Wd.Ord.zero _, Wd.Brk.zero _⟩, Lib.hid (Below.refl _ _)⟩
  case round =>
    obtain ⟨a, o, k, ha, rfl, rfl, rfl, hok, hb⟩ := hrel
    obtain ⟨wo, rfl⟩ : ∃ wo : World, wo = wr := ⟨_, rfl⟩
    by_cases ha6 : a < 16
    · have hda : decide ((a : Int) < 16) = true := decide_eq_true (by omega)
      go_wp2
      clear hda
      go_loopw [9, 6, 7] (fun bv ov kv wr => ∃ (b : Nat) (o k : Bool), b ≤ 16 ∧ bv = .int .i64 b ∧ ov = .bool o ∧ kv = .bool k ∧ Hid (Wd.Ord op a b o ∧ Wd.Brk op a b 0 k) ∧ Hid (Below w.heap.size w wr)) (fun bv _ _ _ => 16 - (intOf bv).toNat)
      case atStart => exact ⟨0, o, k, by decide, rfl, rfl, rfl, hok, hb⟩
      case round =>
        clear hok hb
        obtain ⟨b, o, k, hb16, rfl, rfl, rfl, hok, hb⟩ := hrel
        obtain ⟨wp, rfl⟩ : ∃ wp : World, wp = wr := ⟨_, rfl⟩
        by_cases hb6 : b < 16
        · have HG1 := Lib.hid (HG.out.below hb.out HG.out.lt)
          obtain ⟨x, hx⟩ : ∃ x, x = Wd.doOp op 4 a b := ⟨_, rfl⟩
          obtain ⟨y, hy⟩ : ∃ y, y = Wd.doOp op 4 b a := ⟨_, rfl⟩
          have WA : Hid (Wd.Wo a) := Lib.hid ⟨by omega, by omega⟩
          have WB : Hid (Wd.Wo b) := Lib.hid ⟨by omega, by omega⟩
          have CX := Lib.hid (doIs OP.out.1 OP.out.2 WA.out WB.out hx)
          have CY := Lib.hid (doIs OP.out.1 OP.out.2 WB.out WA.out hy)
          have WX := Lib.hid (doWo OP.out.1 OP.out.2 WA.out WB.out hx)
          have HX := Lib.hid hx; clear hx
          have HY := Lib.hid hy; clear hy
          go_wp2_with fail
          refine (CX.out _ HG1.out).mono ?_
          rintro e w1 ⟨rfl, bel1⟩
          have B1 := Lib.hid (hb.out.trans (bel1.mono hb.out.size)); clear bel1
          have HG2 := Lib.hid (HG.out.below B1.out HG.out.lt)
          go_wp2_with fail
          refine (CY.out _ HG2.out).mono ?_
          rintro e w2 ⟨rfl, bel2⟩
          have B2 := Lib.hid (B1.out.trans (bel2.mono B1.out.size)); clear bel2
          obtain ⟨o2, ho2⟩ : ∃ o2, o2 = (o && (x == y)) := ⟨_, rfl⟩
          have HO2 : Hid (Wd.Ord op a (b + 1) o2) := Lib.hid (by rw [ho2, HX.out, HY.out]; exact hok.out.1.step WA.out WB.out)
          have HK0 : Hid (Wd.Brk op a b 0 k) := Lib.hid hok.out.2
          clear hok hb
          cases o <;> (
            go_wp2
            go_loopw [14, 7] (fun cv kv wr => ∃ (c : Nat) (k : Bool), c ≤ 16 ∧ cv = .int .i64 c ∧ kv = .bool k ∧ Hid (Wd.Brk op a b c k) ∧ Hid (Below w.heap.size w wr)) (fun cv _ _ => 16 - (intOf cv).toNat)
            case atStart => exact ⟨0, k, by decide, rfl, rfl, HK0, B2⟩
            case round =>
              clear HK0 B2 B1 HG1 HG2 CX CY
              obtain ⟨c, k, hc16, rfl, rfl, hk, hbc⟩ := hrel
              obtain ⟨wq, rfl⟩ : ∃ wq : World, wq = wr := ⟨_, rfl⟩
              by_cases hc6 : c < 16
              · have HG3 := Lib.hid (HG.out.below hbc.out HG.out.lt)
                have WC : Hid (Wd.Wo c) := Lib.hid ⟨by omega, by omega⟩
                obtain ⟨u, hu⟩ : ∃ u, u = Wd.doOp op 4 x c := ⟨_, rfl⟩
                obtain ⟨z, hz⟩ : ∃ z, z = Wd.doOp op 4 b c := ⟨_, rfl⟩
                obtain ⟨v, hv⟩ : ∃ v, v = Wd.doOp op 4 a z := ⟨_, rfl⟩
                have WZ := Lib.hid (doWo OP.out.1 OP.out.2 WB.out WC.out hz)
                have CU := Lib.hid (doIs OP.out.1 OP.out.2 WX.out WC.out hu)
                have CZ := Lib.hid (doIs OP.out.1 OP.out.2 WB.out WC.out hz)
                have CV := Lib.hid (doIs OP.out.1 OP.out.2 WA.out WZ.out hv)
                have HK1 : Hid (Wd.Brk op a b (c + 1) (k && (u == v))) := Lib.hid (by rw [hu, hv, hz, HX.out]; exact hk.out.step WA.out WB.out WC.out)
                clear hu hz hv hk
                go_wp2_with fail
                refine (CU.out _ HG3.out).mono ?_
                rintro e w3 ⟨rfl, bel1⟩
                have B3 := Lib.hid (hbc.out.trans (bel1.mono hbc.out.size)); clear bel1
                have HG4 := Lib.hid (HG.out.below B3.out HG.out.lt)
                go_wp2_with fail
                refine (CZ.out _ HG4.out).mono ?_
                rintro e w4 ⟨rfl, bel2⟩
                have B4 := Lib.hid (B3.out.trans (bel2.mono B3.out.size)); clear bel2
                have HG5 := Lib.hid (HG.out.below B4.out HG.out.lt)
                go_wp2_with fail
                refine (CV.out _ HG5.out).mono ?_
                rintro e w5 ⟨rfl, bel3⟩
                have B5 := Lib.hid (B4.out.trans (bel3.mono B4.out.size)); clear bel3
                cases k <;> (
                  go_wp2
                  go_roundw
                  case rel => exact ⟨c + 1, _, by omega, by go_num, rfl, HK1, B5⟩
                  case measure => simp [intOf]; omega)
              · obtain rfl : c = 16 := by omega
                have HK1 : Hid (Wd.Brk op a (b + 1) 0 k) := Lib.hid hk.out.col
                clear hk
                go_wp2
                go_roundw
                case rel => exact ⟨b + 1, _, k, by omega, by go_num, rfl, rfl, Lib.hid ⟨by have h := HO2.out; rw [ho2] at h; exact h, HK1.out⟩, hbc⟩
                case measure => simp [intOf]; omega)
        · obtain rfl : b = 16 := by omega
          have HK1 : Hid (Wd.Ord op (a + 1) 0 o ∧ Wd.Brk op (a + 1) 0 0 k) := Lib.hid ⟨hok.out.1.row, hok.out.2.row⟩
          clear hok
          go_wp2
          go_roundw
          case rel => exact ⟨a + 1, o, k, by omega, by go_num, rfl, rfl, HK1, hb⟩
          case measure => simp [intOf]; omega
    · obtain rfl : a = 16 := by omega
      have ho : o = Wd.comm op := hok.out.1.fin OP.out.1 OP.out.2
      have hks : Wd.assoc op = true → k = true := hok.out.2.1
      have hkn : Wd.comm op = true → Wd.assoc op = false → k = false := fun h1 h2 => hok.out.2.fin h1 h2
      clear hok
      obtain ⟨n, rfl⟩ : ∃ n : Nat, op = n := ⟨op.toNat, by have := OP.out; omega⟩
      have hn : n < 18 := by have := OP.out; omega
      have HO1 := Lib.hid (HO.out.below hb.out HO.out.lt)
      obtain ⟨t, ht⟩ : ∃ t, t = Wd.tx n := ⟨_, rfl⟩
      have hr := Wd.rd_tx n hn
      rw [← tx_toList n, ← ht] at hr
      have CT := Lib.hid (opText_in n wo OP.out.1 OP.out.2 HO1.out)
      have hsz : t.size ≤ maxLen := by
        rw [ht]
        have : ∀ k, k < 18 → (Wd.tx k).size ≤ 4 := by decide
        exact Nat.le_trans (this n hn) (by unfold maxLen; omega)
      have CR := Lib.hid (readOp_any t wo hsz HO1.out)
      rw [hr.1, hr.2] at CR
      rw [show ((n : Nat) : Int).toNat = n from rfl, ← ht] at CT
      clear ht hr hsz
      have CC := fun W => comm_in n W OP.out.1 OP.out.2
      have CA := fun W => assoc_in n W OP.out.1 OP.out.2
      obtain ⟨cm, hcm⟩ : ∃ cm, cm = Wd.comm n := ⟨_, rfl⟩
      obtain ⟨sc, hsc⟩ : ∃ sc, sc = Wd.assoc n := ⟨_, rfl⟩
      rw [← hcm] at ho hkn CC
      rw [← hsc] at hks hkn CA
      clear hcm hsc
      subst ho
      have hnn : ((n : Int) == (n : Int)) = true := beq_self_eq_true _
      go_wp2_with fail
      refine CT.out.mono ?_
      rintro e w' ⟨rfl, rfl⟩
      go_wp2_with fail
      refine CR.out.mono ?_
      rintro e w' ⟨rfl, rfl⟩
      clear HO1 CT CR
      have CC := CC
      cases o <;> cases sc <;> cases k <;> first
        | (exfalso; simp at hks hkn; done)
        | (clear hks hkn; go_wp2_with (first | (go_at_call 17; refine (CC _).mono ?_; rintro e w' ⟨rfl, rfl⟩) | (go_at_call 18; refine (CA _).mono ?_; rintro e w' ⟨rfl, rfl⟩)); go_ret; exact ⟨rfl, hb.out⟩)
end Go.Proofs.YthdiiefacgodnaaDoor.Wds
