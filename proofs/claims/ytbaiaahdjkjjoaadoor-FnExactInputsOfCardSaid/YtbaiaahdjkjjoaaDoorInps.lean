/-
  InputsOf: the model's function.
-/
import Derived.Test.YtbaiaahdjkjjoaaDoorOuts
namespace Go.Proofs.YtbaiaahdjkjjoaaDoor.Wds
open Go.RowKit
set_option linter.unusedVariables false

/-- Whether a list has a number. -/
theorem sHasD_any (A : Option Addr) (n c : Nat) (zs : List Int) (B : Nat) (x : Int) (w : World) (hn : n ≤ 1048576) (h : Rd w B A n zs) :
    Calls Tryd.prog 41 #[.slice A n c, .int .i64 x] w (RetB (zs.contains x) w) := by
  have H := Lib.hid h; clear h
  obtain ⟨r, hr⟩ : ∃ r, r = zs.contains x := ⟨_, rfl⟩
  rw [← hr]
  have HR := Lib.hid hr; clear hr
  go_enter Tryd.func41, Tryd.ntmps41
  go_wp2
  go_loopw [5] (fun i wr => ∃ k : Nat, k ≤ n ∧ i = .int .i64 k ∧ Hid (∀ j, j < k → zs.getD j 0 ≠ x) ∧ Below w.heap.size w wr) (fun i _ => n - (intOf i).toNat)
  case atStart => exact ⟨0, Nat.zero_le _, rfl, Lib.hid (fun j hj => absurd hj (Nat.not_lt_zero _)), Below.refl _ _⟩
  case round =>
    obtain ⟨k, hk, rfl, HA, hb⟩ := hrel
    by_cases hlt : k < n
    · obtain ⟨g, o, rfl, hg, hc⟩ := (H.out.below hb).at_ hlt
      have HL := Lib.hid (show k < zs.length by rw [H.out.len]; exact hlt)
      obtain ⟨z, hz⟩ : ∃ z, z = zs.getD k 0 := ⟨_, rfl⟩
      rw [← hz] at hc
      have HZ := Lib.hid hz
      have HB := Lib.hid hb; clear hz hb
      have i1 : (0 : Int) ≤ (k : Int) := by omega
      have i2 : (k : Int) < (n : Int) := by omega
      by_cases e : z = x
      · obtain rfl : r = true := by
          rw [HR.out, List.contains_iff_mem, ← e, HZ.out, List.getD_eq_getElem?_getD, List.getElem?_eq_getElem HL.out]
          exact List.getElem_mem _
        subst e
        go_wp2
        go_ret
        exact ⟨rfl, HB.out⟩
      · have e1 : (z == x) = false := beq_eq_false_iff_ne.2 e
        have e2 : decide (z = x) = false := decide_eq_false e
        have HE := Lib.hid e; clear e
        go_wp2
        go_roundw
        case rel =>
          refine ⟨k + 1, by omega, by go_num, Lib.hid (fun j hj => ?_), HB.out⟩
          rcases Nat.lt_or_ge j k with h | h
          · exact HA.out j h
          · obtain rfl : j = k := by omega
            rw [← HZ.out]; exact HE.out
        case measure => simp [intOf]; omega
    · have hkn : k = n := by omega
      obtain rfl : r = false := by
        rw [HR.out]
        cases e : zs.contains x
        · rfl
        · exfalso
          rw [List.contains_iff_mem] at e
          obtain ⟨j, hj, he⟩ := List.getElem_of_mem e
          refine HA.out j (by rw [H.out.len] at hj; omega) ?_
          rw [List.getD_eq_getElem?_getD, List.getElem?_eq_getElem hj]; exact he
      have HB := Lib.hid hb; clear hb
      subst hkn
      go_wp2
      go_ret
      exact ⟨rfl, HB.out⟩
theorem hasB2 (s : Nat) (x : Int) (A : Option Addr) (n c : Nat) (B : Nat) (w : World) (hn : n ≤ 1048576) (h : Rd w B A n (Sc.memsI s)) (q : Bool) (hq : (Sc.memsI s).contains x = q) :
    Calls Tryd.prog 41 #[.slice A n c, .int .i64 x] w (RetB q w) := by
  subst hq
  exact sHasD_any A n c _ B x w hn h
set_option maxRecDepth 100000 in
set_option maxHeartbeats 2000000 in
theorem sIns3_any (A : Option Addr) (n c : Nat) (ss : List Sc.St) (B : Nat) (w : World) (h : RdS w B A n ss) (hv : Sc.valid ss = true) :
    Calls Tryd.prog 26 #[.slice A n c] w (RetL (Sc.inputs ss) w) := by
  have HL := Lib.hid h.len
  have hn : n ≤ 16 := by have := Sc.len_of_valid hv; rw [h.len] at this; exact this
  have HV := Lib.hid hv
  have H := Lib.hid h
  clear h hv
  go_enter Tryd.func26, Tryd.ntmps26
  go_wp2
  go_loopw [3, 4, 5] (fun v u i wr => ∃ k : Nat, k ≤ n ∧ i = .int .i64 k ∧ (∃ A m c, v = .slice A m c ∧ Own wr w.heap.size wr.heap.size A m (Sc.memsI (insAt ss k).1) ∧ m ≤ 1048576 ∧ m ≤ c) ∧ (∃ A m c, u = .slice A m c ∧ Own wr w.heap.size wr.heap.size A m (Sc.memsI (insAt ss k).2) ∧ m ≤ 1048576 ∧ m ≤ c) ∧ Below w.heap.size w wr) (fun _ _ i _ => n - (intOf i).toNat)
  case atStart =>
    refine ⟨0, Nat.zero_le _, rfl, ⟨_, 0, 0, rfl, by rw [show Sc.memsI (insAt ss 0).1 = [] by simp [insAt, Sc.memsI, Sc.mems_zero]]; exact Own.nil _ _ _ _, by omega, by omega⟩, ⟨_, 0, 0, rfl, by rw [show Sc.memsI (insAt ss 0).2 = [] by simp [insAt, Sc.memsI, Sc.mems_zero]]; exact Own.nil _ _ _ _, by omega, by omega⟩, ?_⟩
    exact ((Below.refl _ _).alloc (Nat.le_refl _) _).alloc (by simp) _
  case round =>
    rename World => wo
    obtain ⟨k, hk, rfl, ⟨Av, m, cv, rfl, ho, hm, hmc⟩, ⟨Au, l, cu, rfl, hu, hl, hlc⟩, hb⟩ := hrel
    by_cases hlt : k < n
    · obtain ⟨g, o, rfl, hg, d0, d1, d2, d3⟩ := H.out.at_ hlt
      have hgw := World.block_lt_of_cell? w _ d0
      have c1 := (hb.cell (p := ⟨g, o + k * 4 + 1, none⟩) hgw).trans d1
      have c2 := (hb.cell (p := ⟨g, o + k * 4 + 2, none⟩) hgw).trans d2
      have c3 := (hb.cell (p := ⟨g, o + k * 4 + 3, none⟩) hgw).trans d3
      have hst := insAt_succ (ss := ss) (k := k) (by rw [HL.out]; exact hlt)
      have hok := Sc.ok_of_valid HV.out (k := k) (by rw [HL.out]; exact hlt)
      have h2 := Sc.insStep_two (st := insAt ss k) hok
      rw [← hst] at h2
      obtain ⟨x, hx⟩ : ∃ x, x = Sc.nth ss k := ⟨_, rfl⟩
      rw [← hx] at c1 c2 c3 d1 d2 d3 hst hok h2
      obtain ⟨p, d, a, b⟩ := x
      obtain ⟨_, hd, ha, hbc⟩ := Sc.ok_cells hok
      simp only at c1 c2 c3 d1 d2 d3 hd ha hbc h2
      have hp : Sc.put (Sc.memsI (insAt ss k).2) d = Sc.memsI (insAt ss (k + 1)).2 := by rw [Sc.put_memsI _ hd.1 hd.2, hst]; rfl
      have HP := Lib.hid hp
      obtain ⟨s1, hs1⟩ : ∃ s, s = (insAt ss k).1 := ⟨_, rfl⟩
      obtain ⟨s2, hs2⟩ : ∃ s, s = (insAt ss k).2 := ⟨_, rfl⟩
      rw [← hs1] at h2 ho
      rw [← hs2] at h2 hu HP
      -- both tests
      obtain ⟨q1, hq1⟩ : ∃ q, q = (Sc.memsI s2).contains a := ⟨_, rfl⟩
      obtain ⟨q2, hq2⟩ : ∃ q, q = (Sc.memsI s2).contains b := ⟨_, rfl⟩
      have hu32 : l ≤ 32 := by have h1 := memsI_len s2; rw [hu.len] at h1; exact h1
      have ho32 : m ≤ 32 := by have h1 := memsI_len s1; rw [ho.len] at h1; exact h1
      have HO := Lib.hid ho
      have HU := Lib.hid hu
      have HB := Lib.hid hb
      have HGW := Lib.hid hgw
      have HD := Lib.hid (And.intro d1 (And.intro d2 d3))
      have hsz := hb.size
      have mid : ∃ s1', (if q1 = true then Sc.memsI s1 else Sc.put (Sc.memsI s1) a) = Sc.memsI s1' ∧ (if q2 = true then Sc.memsI s1' else Sc.put (Sc.memsI s1') b) = Sc.memsI (insAt ss (k + 1)).1 := by
        refine ⟨if q1 = true then s1 else s1 ||| Sc.bt a, ?_, ?_⟩
        · split
          · rfl
          · exact Sc.put_memsI _ ha.1 ha.2
        · rw [h2, hq1, hq2]
          have e : (if (Sc.memsI s2).contains a = true then Sc.memsI s1 else Sc.put (Sc.memsI s1) a) = Sc.memsI (if (Sc.memsI s2).contains a = true then s1 else s1 ||| Sc.bt a) := by
            split
            · rfl
            · exact Sc.put_memsI _ ha.1 ha.2
          simp only [e]
      obtain ⟨s1', m1, m2⟩ := mid
      have M1 := Lib.hid m1
      have M2 := Lib.hid m2
      have Q1 := Lib.hid hq1
      have Q2 := Lib.hid hq2
      have i1 : (0 : Int) ≤ (k : Int) := by omega
      have i2 : (k : Int) < (n : Int) := by omega
      clear h2 hp hs1 hs2 hst hok hx m1 m2 hq1 hq2 ho hu hb hgw d0 d1 d2 d3
      go_wp2_with fail
      refine (hasB2 s2 a Au l cu _ wo hl HU.out.rd q1 Q1.out.symm).mono ?_
      rintro e w1 ⟨rfl, hb1⟩
      have e1 := (hb1.cell (p := ⟨g, o + k * 4 + 1, none⟩) (by have := HGW.out; show g < wo.heap.size; omega)).trans c1
      have e2 := (hb1.cell (p := ⟨g, o + k * 4 + 2, none⟩) (by have := HGW.out; show g < wo.heap.size; omega)).trans c2
      have e3 := (hb1.cell (p := ⟨g, o + k * 4 + 3, none⟩) (by have := HGW.out; show g < wo.heap.size; omega)).trans c3
      have hsz1 := hb1.size
      have HO1 := Lib.hid (HO.out.below hb1)
      have HU1 := Lib.hid (HU.out.below hb1)
      have HB1 := Lib.hid (HB.out.trans (hb1.mono HB.out.size))
      clear hb1 c1 c2 c3
      have hw1 := HB1.out.size
      cases q1
      · -- the first is put
        have CP := Lib.hid (sPut_any Av m cv _ _ a w1 (by omega) HO1.out.rd)
        have M1' : Sc.put (Sc.memsI s1) a = Sc.memsI s1' := M1.out
        rw [M1'] at CP
        clear M1'
        go_wp2_with fail
        refine CP.out.mono ?_
        rintro e w2 ⟨A2, m2, c2', rfl, ho2, hm2, hmc2, hb2⟩
        have f2 := (hb2.cell (p := ⟨g, o + k * 4 + 2, none⟩) (World.block_lt_of_cell? w1 _ e2)).trans e2
        have f3 := (hb2.cell (p := ⟨g, o + k * 4 + 3, none⟩) (World.block_lt_of_cell? w1 _ e3)).trans e3
        have f1 := (hb2.cell (p := ⟨g, o + k * 4 + 1, none⟩) (World.block_lt_of_cell? w1 _ e1)).trans e1
        have HO2 := Lib.hid (ho2.more HB1.out.size (Nat.le_refl _))
        have HU2 := Lib.hid (HU1.out.below hb2)
        have HB2 := Lib.hid (HB1.out.trans (hb2.mono HB1.out.size))
        have hm232 : m2 ≤ 32 := by have h1 := memsI_len s1'; rw [ho2.len] at h1; exact h1
        clear ho2 hb2 e1 e2 e3
        go_wp2_with fail
        refine (hasB2 s2 b Au l cu _ w2 hl HU2.out.rd q2 Q2.out.symm).mono ?_
        rintro e w3 ⟨rfl, hb3⟩
        have e1 := (hb3.cell (p := ⟨g, o + k * 4 + 1, none⟩) (World.block_lt_of_cell? w2 _ f1)).trans f1
        have e3 := (hb3.cell (p := ⟨g, o + k * 4 + 3, none⟩) (World.block_lt_of_cell? w2 _ f3)).trans f3
        have hsz23 := hb3.size
        have HO3 := Lib.hid (HO2.out.below hb3)
        have HU3 := Lib.hid (HU2.out.below hb3)
        have HB3 := Lib.hid (HB2.out.trans (hb3.mono HB2.out.size))
        clear hb3 f1 f2 f3
        have hs3 : w2.heap.size ≤ w3.heap.size := by have := hsz23; exact this
        cases q2
        · have CP2 := Lib.hid (sPut_any A2 m2 c2' _ _ b w3 (by omega) HO3.out.rd)
          have M2' : Sc.put (Sc.memsI s1') b = Sc.memsI (insAt ss (k + 1)).1 := M2.out
          rw [M2'] at CP2
          clear M2'
          go_wp2_with fail
          refine CP2.out.mono ?_
          rintro e w4 ⟨A4, m4, c4', rfl, ho4, hm4, hmc4, hb4⟩
          have g1 := (hb4.cell (p := ⟨g, o + k * 4 + 1, none⟩) (World.block_lt_of_cell? w3 _ e1)).trans e1
          have HO4 := Lib.hid (ho4.more HB3.out.size (Nat.le_refl _))
          have HU4 := Lib.hid (HU3.out.below hb4)
          have HB4 := Lib.hid (HB3.out.trans (hb4.mono HB3.out.size))
          clear ho4 hb4
          have CP3 := Lib.hid (sPut_any Au l cu _ _ d w4 (by omega) HU4.out.rd)
          rw [HP.out] at CP3
          go_wp2_with fail
          refine CP3.out.mono ?_
          rintro e w5 ⟨A5, m5, c5, rfl, ho5, hm5, hmc5, hb5⟩
          have HO5 := Lib.hid (HO4.out.below hb5)
          have HU5 := Lib.hid (ho5.more HB4.out.size (Nat.le_refl _))
          have HB5 := Lib.hid (HB4.out.trans (hb5.mono HB4.out.size))
          have hs5 := hb5.size
          clear ho5 hb5
          go_wp2
          go_roundw
          case rel => exact ⟨k + 1, by omega, by go_num, ⟨A4, m4, c4', rfl, HO5.out.more (Nat.le_refl _) hs5, hm4, hmc4⟩, ⟨A5, m5, c5, rfl, HU5.out, hm5, hmc5⟩, HB5.out⟩
          case measure => simp [intOf]; omega
        · have M2' : Sc.memsI s1' = Sc.memsI (insAt ss (k + 1)).1 := M2.out
          have HO4 := Lib.hid (show Own w3 w.heap.size w3.heap.size A2 m2 (Sc.memsI (insAt ss (k + 1)).1) by rw [← M2']; exact HO3.out.more (Nat.le_refl _) hs3)
          clear M2'
          have CP3 := Lib.hid (sPut_any Au l cu _ _ d w3 (by omega) HU3.out.rd)
          rw [HP.out] at CP3
          go_wp2_with fail
          refine CP3.out.mono ?_
          rintro e w5 ⟨A5, m5, c5, rfl, ho5, hm5, hmc5, hb5⟩
          have HO5 := Lib.hid (HO4.out.below hb5)
          have HU5 := Lib.hid (ho5.more HB3.out.size (Nat.le_refl _))
          have HB5 := Lib.hid (HB3.out.trans (hb5.mono HB3.out.size))
          have hs5 := hb5.size
          clear ho5 hb5
          go_wp2
          go_roundw
          case rel => exact ⟨k + 1, by omega, by go_num, ⟨A2, m2, c2', rfl, HO5.out.more (Nat.le_refl _) hs5, by omega, hmc2⟩, ⟨A5, m5, c5, rfl, HU5.out, hm5, hmc5⟩, HB5.out⟩
          case measure => simp [intOf]; omega
      · -- it has been written: nothing is put
        go_wp2_with fail
        refine (hasB2 s2 b Au l cu _ w1 hl HU1.out.rd q2 Q2.out.symm).mono ?_
        rintro e w3 ⟨rfl, hb3⟩
        have f1 := (hb3.cell (p := ⟨g, o + k * 4 + 1, none⟩) (World.block_lt_of_cell? w1 _ e1)).trans e1
        have f3 := (hb3.cell (p := ⟨g, o + k * 4 + 3, none⟩) (World.block_lt_of_cell? w1 _ e3)).trans e3
        have HO3' := Lib.hid (HO1.out.below hb3)
        have M1' : Sc.memsI s1 = Sc.memsI s1' := M1.out
        have HO3 := Lib.hid (show Own w3 w.heap.size w3.heap.size Av m (Sc.memsI s1') by rw [← M1']; exact HO3'.out.more (Nat.le_refl _) (by have := hb3.size; omega))
        clear HO3' M1'
        have HU3 := Lib.hid (HU1.out.below hb3)
        have HB3 := Lib.hid (HB1.out.trans (hb3.mono HB1.out.size))
        clear hb3 e1 e2 e3
        cases q2
        · have CP2 := Lib.hid (sPut_any Av m cv _ _ b w3 (by omega) HO3.out.rd)
          have M2' : Sc.put (Sc.memsI s1') b = Sc.memsI (insAt ss (k + 1)).1 := M2.out
          rw [M2'] at CP2
          clear M2'
          go_wp2_with fail
          refine CP2.out.mono ?_
          rintro e w4 ⟨A4, m4, c4', rfl, ho4, hm4, hmc4, hb4⟩
          have g1 := (hb4.cell (p := ⟨g, o + k * 4 + 1, none⟩) (World.block_lt_of_cell? w3 _ f1)).trans f1
          have HO4 := Lib.hid (ho4.more HB3.out.size (Nat.le_refl _))
          have HU4 := Lib.hid (HU3.out.below hb4)
          have HB4 := Lib.hid (HB3.out.trans (hb4.mono HB3.out.size))
          clear ho4 hb4
          have CP3 := Lib.hid (sPut_any Au l cu _ _ d w4 (by omega) HU4.out.rd)
          rw [HP.out] at CP3
          go_wp2_with fail
          refine CP3.out.mono ?_
          rintro e w5 ⟨A5, m5, c5, rfl, ho5, hm5, hmc5, hb5⟩
          have HO5 := Lib.hid (HO4.out.below hb5)
          have HU5 := Lib.hid (ho5.more HB4.out.size (Nat.le_refl _))
          have HB5 := Lib.hid (HB4.out.trans (hb5.mono HB4.out.size))
          have hs5 := hb5.size
          clear ho5 hb5
          go_wp2
          go_roundw
          case rel => exact ⟨k + 1, by omega, by go_num, ⟨A4, m4, c4', rfl, HO5.out.more (Nat.le_refl _) hs5, hm4, hmc4⟩, ⟨A5, m5, c5, rfl, HU5.out, hm5, hmc5⟩, HB5.out⟩
          case measure => simp [intOf]; omega
        · have M2' : Sc.memsI s1' = Sc.memsI (insAt ss (k + 1)).1 := M2.out
          have HO4 := Lib.hid (show Own w3 w.heap.size w3.heap.size Av m (Sc.memsI (insAt ss (k + 1)).1) by rw [← M2']; exact HO3.out.more (Nat.le_refl _) (Nat.le_refl _))
          clear M2'
          have CP3 := Lib.hid (sPut_any Au l cu _ _ d w3 (by omega) HU3.out.rd)
          rw [HP.out] at CP3
          go_wp2_with fail
          refine CP3.out.mono ?_
          rintro e w5 ⟨A5, m5, c5, rfl, ho5, hm5, hmc5, hb5⟩
          have HO5 := Lib.hid (HO4.out.below hb5)
          have HU5 := Lib.hid (ho5.more HB3.out.size (Nat.le_refl _))
          have HB5 := Lib.hid (HB3.out.trans (hb5.mono HB3.out.size))
          have hs5 := hb5.size
          clear ho5 hb5
          go_wp2
          go_roundw
          case rel => exact ⟨k + 1, by omega, by go_num, ⟨Av, m, cv, rfl, HO5.out.more (Nat.le_refl _) hs5, by omega, hmc⟩, ⟨A5, m5, c5, rfl, HU5.out, hm5, hmc5⟩, HB5.out⟩
          case measure => simp [intOf]; omega
    · have hkn : k = n := by omega
      subst hkn
      rw [insAt_all HL.out] at ho
      have HO := Lib.hid ho
      have HB := Lib.hid hb; clear ho hb hu
      go_wp2
      go_ret
      exact ⟨Av, m, cv, rfl, HO.out, hm, hmc, HB.out⟩
theorem sInputsOf_any (A : Option Addr) (n c : Nat) (ss : List Sc.St) (B : Nat) (w : World) (hn : n ≤ 1048576) (h : RdS w B A n ss) :
    Calls Tryd.prog 15 #[.slice A n c] w (Ret1 (ins2 ss).1 (ins2 ss).2 w) := by
  have CV := Lib.hid (sIs3_any A n c ss B w hn h)
  have CO := Lib.hid (fun (W : World) (hb : Below w.heap.size w W) (hv : Sc.valid ss = true) => sIns3_any A n c ss B W (h.below hb) hv)
  clear h
  unfold ins2
  obtain ⟨v, hv⟩ : ∃ v, v = Sc.valid ss := ⟨_, rfl⟩
  rw [← hv] at CV ⊢
  have HV := Lib.hid hv
  clear hv
  cases v
  · rw [if_neg (by simp)]
    go_enter Tryd.func15, Tryd.ntmps15
    go_wp2_with fail
    refine CV.out.mono ?_
    rintro e w1 ⟨rfl, hb⟩
    have HB := Lib.hid hb; clear hb
    go_wp2
    go_ret2
    exact Ret1.none_ HB.out
  · rw [if_pos rfl]
    go_enter Tryd.func15, Tryd.ntmps15
    go_wp2_with fail
    refine CV.out.mono ?_
    rintro e w1 ⟨rfl, hb⟩
    have HB := Lib.hid hb; clear hb
    go_wp2_with fail
    refine (CO.out _ HB.out HV.out.symm).mono ?_
    rintro e w2 ⟨Am, m, cm, rfl, ho, hm, hmc, hb2⟩
    have HO := Lib.hid ho
    have HB2 := Lib.hid hb2; clear ho hb2
    go_wp2
    go_ret2
    exact ⟨Am, m, cm, rfl, HO.out.more HB.out.size (Nat.le_refl _), hm, HB.out.trans (HB2.out.mono HB.out.size)⟩
end Go.Proofs.YtbaiaahdjkjjoaaDoor.Wds
