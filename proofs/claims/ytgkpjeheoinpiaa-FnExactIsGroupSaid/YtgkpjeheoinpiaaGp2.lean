/-
  Groups: the model's test of a group, and of a machine and code. One contract each.
-/
import Derived.Test.YtgkpjeheoinpiaaGp1
import Derived.Test.YtgkpjeheoinpiaaHasM
import Derived.Test.YtgkpjeheoinpiaaFollow
import Derived.Test.YtgkpjeheoinpiaaMch
namespace Go.Proofs.Ytgkpjeheoinpiaa.Wds
open Go.RowKit
set_option linter.unusedVariables false

theorem sBoth_any (l b : Int) (mb : Nat) (A : Option Addr) (n c : Nat) (ss : List Sc.St) (B : Nat) (w : World) (hn : n ≤ 1048576) (h : RdS w B A n ss)
    (m0 : w.cell? ⟨mb, 0, none⟩ = some (.int .i64 l)) (m1 : w.cell? ⟨mb, 1, none⟩ = some (.int .i64 b)) :
    Calls Try.prog 12 #[.pointer (some ⟨mb, 0, none⟩), .slice A n c] w (RetB (Mc.mok l b && decide (l ≤ 4) && Sc.valid ss) w) := by
  have C1 := Lib.hid (sMachine_any l b mb 0 w m0 m1)
  have C2 := Lib.hid (sIs3_any A n c ss B w hn h)
  have e4 : decide (l ≤ 4) = true ∨ decide (l ≤ 4) = false := by cases decide (l ≤ 4) <;> simp
  generalize Mc.mok l b = r1 at C1 ⊢
  generalize Sc.valid ss = r2 at C2 ⊢
  clear h
  cases r1
  · go_enter Try.func12, Try.ntmps12
    go_wp2_with fail
    refine C1.out.mono ?_
    rintro e w1 ⟨rfl, rfl⟩
    go_wp2
    go_ret
    exact ⟨ret_bool (by simp), Below.refl _ _⟩
  · rcases e4 with e4 | e4
    · go_enter Try.func12, Try.ntmps12
      go_wp2_with fail
      refine C1.out.mono ?_
      rintro e w1 ⟨rfl, rfl⟩
      go_wp2_with fail
      refine C2.out.mono ?_
      rintro e w2 ⟨rfl, hb⟩
      have HB := Lib.hid hb; clear hb
      go_wp2
      go_ret
      exact ⟨ret_bool (by simp [e4]), HB.out⟩
    · go_enter Try.func12, Try.ntmps12
      go_wp2_with fail
      refine C1.out.mono ?_
      rintro e w1 ⟨rfl, rfl⟩
      go_wp2
      go_ret
      exact ⟨ret_bool (by simp [e4]), Below.refl _ _⟩
set_option maxRecDepth 100000 in
set_option maxHeartbeats 4000000 in
theorem sGroup_any (l : Int) (mb : Nat) (A : Option Addr) (n c : Nat) (ss : List Sc.St) (A' : Option Addr) (m c' : Nat) (zs : List Int) (B B' : Nat) (w : World) (hn : n ≤ 1048576) (hm : m ≤ 1048576) (hmc : m ≤ c')
    (hl : l = 2 ∨ l = 4) (hv : Sc.valid ss = true) (h : RdS w B A n ss) (h' : Rd w B' A' m zs) (m0 : w.cell? ⟨mb, 0, none⟩ = some (.int .i64 l)) :
    Calls Try.prog 13 #[.pointer (some ⟨mb, 0, none⟩), .slice A n c, .slice A' m c'] w (RetB (Gp.grp l ss zs) w) := by
  have hlen := h.len
  have hlen' := h'.len
  obtain ⟨r, hr⟩ : ∃ r, r = Gp.grp l ss zs := ⟨_, rfl⟩
  rw [← hr]
  by_cases hml : (m : Int) = l
  · have h0 : 0 < m := by omega
    have F1 := Lib.hid (show ∀ k, k < m → Gp.pass ss zs k = false → r = false from fun k hk hp => by
      rw [hr]; unfold Gp.grp Gp.passAll
      have : (List.range zs.length).all (Gp.pass ss zs) = false := by
        rw [List.all_eq_false]; exact ⟨k, List.mem_range.2 (by omega), by rw [hp]; simp⟩
      rw [this]; simp)
    have F2 := Lib.hid (show (∀ k, k < m → Gp.pass ss zs k = true) → r = (Gp.near l ss zs 1 && (Gp.near l ss zs 2 && Gp.side l ss zs)) from fun hp => by
      rw [hr]; unfold Gp.grp Gp.passAll
      have : (List.range zs.length).all (Gp.pass ss zs) = true := by
        rw [List.all_eq_true]; intro k hk; exact hp k (by have := List.mem_range.1 hk; omega)
      rw [this, decide_eq_true (by omega)]; simp)
    have HOK := Lib.hid (fun k (hk : k < n) => Sc.ok_of_valid hv (k := k) (by omega))
    have HLEN := Lib.hid hlen
    have HLEN' := Lib.hid hlen'
    have H := Lib.hid h
    have H' := Lib.hid h'
    have M0 := Lib.hid m0
    clear hr h h' hv hlen hlen' hl
    subst hml
    go_enter Try.func13, Try.ntmps13
    have m1 := M0.out
    go_wp2
    go_loopw [7] (fun i wr => ∃ k : Nat, k ≤ m ∧ i = .int .i64 k ∧ Hid (∀ j, j < k → Gp.pass ss zs j = true) ∧ Below w.heap.size w wr) (fun i _ => m - (intOf i).toNat)
    case atStart => exact ⟨0, Nat.zero_le _, rfl, Lib.hid (fun j hj => absurd hj (Nat.not_lt_zero _)), Below.refl _ _⟩
    case round =>
      rename World => wo
      obtain ⟨k, hk, rfl, HP, hb⟩ := hrel
      by_cases hlt : k < m
      · obtain ⟨g, o, rfl, hg, hc⟩ := (H'.out.below hb).at_ hlt
        obtain ⟨z, hz⟩ : ∃ z, z = zs.getD k 0 := ⟨_, rfl⟩
        rw [← hz] at hc
        have i1 : (0 : Int) ≤ (k : Int) := by omega
        have i2 : (k : Int) < (m : Int) := by omega
        have u1 : IntKind.i64.wrap ((n : Int) - 1) = (n : Int) - 1 := IntWalk.i64_in _ (by omega)
        have i3 : k ≤ c' := by omega
        have PD := Lib.hid (show Gp.pass ss zs k = (decide (0 ≤ z ∧ z ≤ (ss.length : Int) - 1) && (!(zs.take k).contains z && ((Gp.at_ ss zs k).op == (Gp.at_ ss zs 0).op && (List.range k).all fun j => !Sc.must (Gp.at_ ss zs j) (Gp.at_ ss zs k)))) by rw [hz]; rfl)
        by_cases hid : 0 ≤ z ∧ z ≤ (n : Int) - 1
        · have CI := Lib.hid (inBq (w := wo) z 0 ((n : Int) - 1) true (decide_eq_true hid))
          have hT := Rd.cut (H'.out.below hb) 0 k (by omega)
          rw [List.drop_zero, Nat.add_zero] at hT
          obtain ⟨t, ht⟩ : ∃ t, t = (zs.take k).contains z := ⟨_, rfl⟩
          have CH := Lib.hid (fun (p : BelowBy wo) => calls_below (p := p) (sHas_any (some ⟨g, o, none⟩) k c' (zs.take k) B' z p.W (by omega) (hT.below p.h)))
          rw [← ht] at CH PD
          clear hT
          have d0 := BelowBy.cell hc
          cases t
          · obtain ⟨q, rfl⟩ := Int.eq_ofNat_of_zero_le hid.1
            obtain ⟨g1, o1, rfl, hg1, hS⟩ := (H.out.below hb).at_ (k := q) (by omega)
            obtain ⟨x, hx⟩ : ∃ x, x = Sc.nth ss q := ⟨_, rfl⟩
            rw [← hx] at hS
            obtain ⟨z0, hz0⟩ : ∃ z, z = zs.getD 0 0 := ⟨_, rfl⟩
            have hid0 : 0 ≤ z0 ∧ z0 ≤ (n : Int) - 1 := by
              rcases Nat.eq_zero_or_pos k with e | e
              · subst e; rw [hz0, ← hz]; exact hid
              · have := HP.out 0 e
                unfold Gp.pass at this
                rw [Bool.and_eq_true, decide_eq_true_eq, ← hz0, HLEN.out] at this
                exact this.1
            obtain ⟨q0, rfl⟩ := Int.eq_ofNat_of_zero_le hid0.1
            obtain ⟨g', o', e', _, hc0⟩ := (H'.out.below hb).at_ (k := 0) h0
            injection e' with e'; injection e' with e1 e2; subst e1; subst e2
            rw [← hz0, Nat.add_zero] at hc0
            obtain ⟨g', o', e', _, hS0⟩ := (H.out.below hb).at_ (k := q0) (by omega)
            injection e' with e'; injection e' with e1 e2; subst e1; subst e2
            obtain ⟨x0, hx0⟩ : ∃ x, x = Sc.nth ss q0 := ⟨_, rfl⟩
            rw [← hx0] at hS0
            have A1 : Gp.at_ ss zs k = x := by rw [Gp.at_, ← hz, hx]; rfl
            have A0 : Gp.at_ ss zs 0 = x0 := by rw [Gp.at_, ← hz0, hx0]; rfl
            rw [A1, A0] at PD
            have HA1 := Lib.hid A1
            have d1 := BelowBy.cell hc0
            have d2 := BelowBy.cell hS.1
            have d3 := BelowBy.cell hS0.1
            have HS := Lib.hid hS
            have HX := Lib.hid (And.intro hz (And.intro hx hid))
            have HB := Lib.hid hb
            have j1 : (0 : Int) < (m : Int) := by omega
            have j2 : (q : Int) < (n : Int) := by omega
            have j3 : (q0 : Int) < (n : Int) := by omega
            have j4 : (0 : Int) ≤ (q : Int) := by omega
            have j5 : (0 : Int) ≤ (q0 : Int) := by omega
            clear hz hx hid hc hS hS0 hc0 A1 A0 hb hx0 hz0 hid0 ht
            by_cases hop : x.op = x0.op
            · have hop1 : (x.op == x0.op) = true := by rw [hop]; simp
              have hop2 : decide (x.op = x0.op) = true := decide_eq_true hop
              rw [hop1] at PD
              rw [← hop] at d3
              clear hop hop1 hop2
              go_wp2
              refine wp_region_quiet_below (by kernel_rfl) (by kernel_rfl) ?_
              repeat (go_big_quiet_step (first | (go_at_call 20; exact CI.out _) | (go_at_call 21; exact CH.out _)))
              refine wpQuiet_nil ?_
              rintro w1 ⟨⟨_, hw1⟩, rfl⟩
              have HB1 := Lib.hid (HB.out.trans (hw1.mono HB.out.size)); clear hw1 d0 d1 d2 d3
              go_wp2
              go_loopw [8] (fun i wr => ∃ j : Nat, j ≤ k ∧ i = .int .i64 j ∧ Hid (∀ y, y < j → Sc.must (Gp.at_ ss zs y) x = false) ∧ Below w.heap.size w wr) (fun i _ => k - (intOf i).toNat)
              case atStart => exact ⟨0, Nat.zero_le _, rfl, Lib.hid (fun j hj => absurd hj (Nat.not_lt_zero _)), HB1.out⟩
              case round =>
                rename World => wi
                obtain ⟨j, hj, rfl, HM, hb⟩ := hrel
                by_cases hjl : j < k
                · obtain ⟨y, hy⟩ : ∃ y, y = zs.getD j 0 := ⟨_, rfl⟩
                  have hidy : 0 ≤ y ∧ y ≤ (n : Int) - 1 := by
                    have := HP.out j hjl
                    unfold Gp.pass at this
                    rw [Bool.and_eq_true, decide_eq_true_eq, ← hy, HLEN.out] at this
                    exact this.1
                  obtain ⟨v, rfl⟩ := Int.eq_ofNat_of_zero_le hidy.1
                  obtain ⟨g', o', e', _, hcj⟩ := (H'.out.below hb).at_ (k := j) (by omega)
                  injection e' with e'; injection e' with e1 e2; subst e1; subst e2
                  obtain ⟨g', o', e', _, hck⟩ := (H'.out.below hb).at_ (k := k) (by omega)
                  injection e' with e'; injection e' with e1 e2; subst e1; subst e2
                  obtain ⟨g', o', e', _, hSj⟩ := (H.out.below hb).at_ (k := v) (by omega)
                  injection e' with e'; injection e' with e1 e2; subst e1; subst e2
                  obtain ⟨g', o', e', _, hSk⟩ := (H.out.below hb).at_ (k := q) (by omega)
                  injection e' with e'; injection e' with e1 e2; subst e1; subst e2
                  rw [← hy] at hcj
                  rw [← HX.out.1] at hck
                  rw [← HX.out.2.1] at hSk
                  have AJ : Gp.at_ ss zs j = Sc.nth ss v := by rw [Gp.at_, ← hy]; rfl
                  obtain ⟨u, hu⟩ : ∃ u, u = Sc.nth ss v := ⟨_, rfl⟩
                  rw [← hu] at hSj AJ
                  have HAJ := Lib.hid AJ
                  obtain ⟨t, ht⟩ : ∃ t, t = Sc.must u x := ⟨_, rfl⟩
                  have CM := Lib.hid (fun (p : BelowBy wi) => calls_below (p := p) (sMust_any g1 (o1 + v * 4) g1 (o1 + q * 4) u.op u.d u.a u.b x.op x.d x.a x.b p.W (hSj.cells fun i hs => p.h.cell hs) (hSk.cells fun i hs => p.h.cell hs)))
                  have hmx : Sc.must ⟨u.op, u.d, u.a, u.b⟩ ⟨x.op, x.d, x.a, x.b⟩ = t := by rw [ht]
                  rw [hmx] at CM
                  have e0 := BelowBy.cell hcj
                  have e1 := BelowBy.cell hck
                  have HBI := Lib.hid hb
                  have HTT := Lib.hid ht
                  have k1 : (0 : Int) ≤ (j : Int) := by omega
                  have k2 : (j : Int) < (m : Int) := by omega
                  have k3 : (0 : Int) ≤ (v : Int) := by omega
                  have k4 : (v : Int) < (n : Int) := by omega
                  have k5 : (j : Int) < (k : Int) := by omega
                  clear hcj hck hSj hSk AJ hu hy hidy hb ht hmx
                  cases t
                  · go_wp2
                    refine wp_region_quiet_below (by kernel_rfl) (by kernel_rfl) ?_
                    repeat (go_big_quiet_step (first | (go_at_call 22; exact CM.out _)))
                    refine wpQuiet_nil ?_
                    rintro w2 ⟨⟨_, hw2⟩, rfl⟩
                    have HB2 := Lib.hid (HBI.out.trans (hw2.mono HBI.out.size)); clear hw2 e0 e1
                    go_wp2
                    go_roundw
                    case rel =>
                      refine ⟨j + 1, by omega, by go_num, Lib.hid (fun y hy => ?_), HB2.out⟩
                      rcases Nat.lt_or_ge y j with h | h
                      · exact HM.out y h
                      · obtain rfl : y = j := by omega
                        rw [HAJ.out]; exact HTT.out.symm
                    case measure => simp [intOf]; omega
                  · have hrf : r = false := F1.out k hlt (by
                      rw [PD.out]
                      have : ((List.range k).all fun j => !Sc.must (Gp.at_ ss zs j) x) = false := by
                        rw [List.all_eq_false]; exact ⟨j, List.mem_range.2 hjl, by rw [HAJ.out, ← HTT.out]; simp⟩
                      rw [this]; simp)
                    subst hrf
                    go_wp2
                    refine wp_region_quiet_below (by kernel_rfl) (by kernel_rfl) ?_
                    repeat (go_big_quiet_step (first | (go_at_call 22; exact CM.out _)))
                    refine wpQuiet_nil ?_
                    rintro w2 ⟨⟨_, hw2⟩, rfl⟩
                    have HB2 := Lib.hid (HBI.out.trans (hw2.mono HBI.out.size)); clear hw2 e0 e1
                    go_wp2
                    go_ret
                    exact ⟨rfl, HB2.out⟩
                · have hjk : j = k := by omega
                  have HBI := Lib.hid hb; clear hb
                  have k5 : ¬ (j : Int) < (k : Int) := by omega
                  have HJK := Lib.hid hjk
                  clear hjk hjl
                  go_wp2
                  go_roundw
                  case rel =>
                    refine ⟨k + 1, by omega, by go_num, Lib.hid (fun y hy => ?_), HBI.out⟩
                    rcases Nat.lt_or_ge y k with h | h
                    · exact HP.out y h
                    · have ey : y = k := by omega
                      rw [ey, PD.out, HLEN.out, decide_eq_true HX.out.2.2]
                      have : ((List.range k).all fun j => !Sc.must (Gp.at_ ss zs j) x) = true := by
                        rw [List.all_eq_true]; intro i hi
                        rw [HM.out i (by have := List.mem_range.1 hi; have := HJK.out; omega)]; rfl
                      rw [this]; rfl
                  case measure => simp [intOf]; omega
            · have hop1 : (x.op == x0.op) = false := beq_eq_false_iff_ne.2 hop
              have hop2 : decide (x.op = x0.op) = false := decide_eq_false hop
              have hop3 : (x.op != x0.op) = true := by simp [hop]
              have hrf : r = false := F1.out k hlt (by rw [PD.out, hop1]; simp)
              subst hrf
              clear hop
              go_wp2
              refine wp_region_quiet_below (by kernel_rfl) (by kernel_rfl) ?_
              repeat (go_big_quiet_step (first | (go_at_call 20; exact CI.out _) | (go_at_call 21; exact CH.out _)))
              refine wpQuiet_nil ?_
              rintro w1 ⟨⟨_, hw1⟩, rfl⟩
              go_wp2
              go_ret
              exact ⟨rfl, HB.out.trans (hw1.mono HB.out.size)⟩
          · have hrf : r = false := F1.out k hlt (by rw [PD.out]; simp)
            subst hrf
            have HB := Lib.hid hb
            clear hb hid ht hz hc
            go_wp2
            refine wp_region_quiet_below (by kernel_rfl) (by kernel_rfl) ?_
            repeat (go_big_quiet_step (first | (go_at_call 20; exact CI.out _) | (go_at_call 21; exact CH.out _)))
            refine wpQuiet_nil ?_
            rintro w1 ⟨⟨_, hw1⟩, rfl⟩
            go_wp2
            go_ret
            exact ⟨rfl, HB.out.trans (hw1.mono HB.out.size)⟩
        · have CI := Lib.hid (inBq (w := wo) z 0 ((n : Int) - 1) false (decide_eq_false hid))
          have hrf : r = false := F1.out k hlt (by rw [PD.out, HLEN.out, decide_eq_false hid]; rfl)
          subst hrf
          have d0 := BelowBy.cell hc
          have HB := Lib.hid hb
          clear hb hid hz hc
          go_wp2
          refine wp_region_quiet_below (by kernel_rfl) (by kernel_rfl) ?_
          repeat (go_big_quiet_step (first | (go_at_call 20; exact CI.out _)))
          refine wpQuiet_nil ?_
          rintro w1 ⟨⟨_, hw1⟩, rfl⟩
          go_wp2
          go_ret
          exact ⟨rfl, HB.out.trans (hw1.mono HB.out.size)⟩
      · have hkm : k = m := by omega
        subst hkm
        have HQ := Lib.hid (F2.out HP.out)
        have HV := Lib.hid (show ∀ j, j < k → 0 ≤ zs.getD j 0 ∧ zs.getD j 0 < (n : Int) from fun j hj => by
          have := HP.out j hj
          unfold Gp.pass at this
          rw [Bool.and_eq_true, decide_eq_true_eq, HLEN.out] at this
          omega)
        have HBO := Lib.hid hb; clear hb
        have HBD := Lib.hid (fun which => Gp.ends_bd (c := ss) (g := zs) which (by rw [HLEN'.out]; exact h0) (fun j hj => by
          have h1 := HV.out j (by rw [← HLEN'.out]; exact hj)
          exact HOK.out _ (by omega)))
        go_wp2
        go_loopw [9, 10, 11] (fun i _ _ wr => ∃ q : Nat, (q = 1 ∨ q = 2 ∨ q = 3) ∧ i = .int .i64 q ∧ Hid (1 < q → Gp.near k ss zs 1 = true) ∧ Hid (2 < q → Gp.near k ss zs 2 = true) ∧ Below w.heap.size w wr) (fun i _ _ _ => 3 - (intOf i).toNat)
        case atStart => exact ⟨1, .inl rfl, rfl, Lib.hid (by omega), Lib.hid (by omega), HBO.out⟩
        case round =>
          rename World => wi
          obtain ⟨q, hq, rfl, N1, N2, hb⟩ := hrel
          have HBI := Lib.hid hb; clear hb
          rcases hq with rfl | rfl | rfl
          · have hbd := HBD.out 1
            obtain ⟨lo, hlo⟩ : ∃ x, x = Gp.low (Gp.cells ss zs 1) := ⟨_, rfl⟩
            obtain ⟨hi, hhi⟩ : ∃ x, x = Gp.high (Gp.cells ss zs 1) := ⟨_, rfl⟩
            have hnr : Gp.near k ss zs 1 = !decide (2 * (k : Int) ≤ hi - lo) := by rw [hlo, hhi]; rfl
            rw [← hlo, ← hhi] at hbd
            have u1 : IntKind.i64.wrap (hi - lo) = hi - lo := IntWalk.i64_in _ (by omega)
            have u2 : IntKind.i64.wrap (2 * (k : Int)) = 2 * (k : Int) := IntWalk.i64_in _ (by omega)
            have CC := Lib.hid (sCells_any A n c ss A' k c' zs B B' 1 1 (by simp) wi hm (H.out.below HBI.out) (H'.out.below HBI.out) HV.out)
            have HLH := Lib.hid (And.intro hlo hhi)
            have HNR := Lib.hid hnr
            clear hbd hlo hhi hnr
            go_wp2_with fail
            refine CC.out.mono ?_
            rintro e w1 ⟨A2, n2, c2, rfl, ho, hn2, _, hb⟩
            have hn2k : n2 = k := by have := ho.len; rw [Gp.cells_len, HLEN'.out] at this; omega
            subst hn2k
            have CE := Lib.hid (sEnds_any A2 n2 c2 (Gp.cells ss zs 1) _ w1 hn2 h0 ho.rd)
            rw [← HLH.out.1, ← HLH.out.2] at CE
            have HB1 := Lib.hid (HBI.out.trans (hb.mono HBI.out.size)); clear ho hb
            go_wp2_with fail
            refine CE.out.mono ?_
            rintro e w2 ⟨rfl, hb⟩
            have HB2 := Lib.hid (HB1.out.trans (hb.mono HB1.out.size)); clear hb
            have mq := (HB2.out.cell (World.block_lt_of_cell? w _ M0.out)).trans M0.out
            by_cases hd : 2 * (n2 : Int) ≤ hi - lo
            · have hd1 : decide (2 * (n2 : Int) ≤ hi - lo) = true := decide_eq_true hd
              have hrf : r = false := by rw [HQ.out, HNR.out, hd1]; simp
              subst hrf
              go_wp2
              go_ret
              exact ⟨rfl, HB2.out⟩
            · have hd1 : decide (2 * (n2 : Int) ≤ hi - lo) = false := decide_eq_false hd
              have HD1 := Lib.hid hd1
              go_wp2
              go_roundw
              case rel => exact ⟨2, by omega, by go_num, Lib.hid (fun _ => by rw [HNR.out, HD1.out]; rfl), Lib.hid (fun h => absurd h (by omega)), HB2.out⟩
              case measure => simp [intOf]
          · have hbd := HBD.out 2
            obtain ⟨lo, hlo⟩ : ∃ x, x = Gp.low (Gp.cells ss zs 2) := ⟨_, rfl⟩
            obtain ⟨hi, hhi⟩ : ∃ x, x = Gp.high (Gp.cells ss zs 2) := ⟨_, rfl⟩
            have hnr : Gp.near k ss zs 2 = !decide (2 * (k : Int) ≤ hi - lo) := by rw [hlo, hhi]; rfl
            rw [← hlo, ← hhi] at hbd
            have u1 : IntKind.i64.wrap (hi - lo) = hi - lo := IntWalk.i64_in _ (by omega)
            have u2 : IntKind.i64.wrap (2 * (k : Int)) = 2 * (k : Int) := IntWalk.i64_in _ (by omega)
            have CC := Lib.hid (sCells_any A n c ss A' k c' zs B B' 2 2 (by simp) wi hm (H.out.below HBI.out) (H'.out.below HBI.out) HV.out)
            have HLH := Lib.hid (And.intro hlo hhi)
            have HNR := Lib.hid hnr
            clear hbd hlo hhi hnr
            go_wp2_with fail
            refine CC.out.mono ?_
            rintro e w1 ⟨A2, n2, c2, rfl, ho, hn2, _, hb⟩
            have hn2k : n2 = k := by have := ho.len; rw [Gp.cells_len, HLEN'.out] at this; omega
            subst hn2k
            have CE := Lib.hid (sEnds_any A2 n2 c2 (Gp.cells ss zs 2) _ w1 hn2 h0 ho.rd)
            rw [← HLH.out.1, ← HLH.out.2] at CE
            have HB1 := Lib.hid (HBI.out.trans (hb.mono HBI.out.size)); clear ho hb
            go_wp2_with fail
            refine CE.out.mono ?_
            rintro e w2 ⟨rfl, hb⟩
            have HB2 := Lib.hid (HB1.out.trans (hb.mono HB1.out.size)); clear hb
            have mq := (HB2.out.cell (World.block_lt_of_cell? w _ M0.out)).trans M0.out
            by_cases hd : 2 * (n2 : Int) ≤ hi - lo
            · have hd1 : decide (2 * (n2 : Int) ≤ hi - lo) = true := decide_eq_true hd
              have hrf : r = false := by rw [HQ.out, HNR.out, hd1]; simp [N1.out (by omega)]
              subst hrf
              go_wp2
              go_ret
              exact ⟨rfl, HB2.out⟩
            · have hd1 : decide (2 * (n2 : Int) ≤ hi - lo) = false := decide_eq_false hd
              have HD1 := Lib.hid hd1
              go_wp2
              go_roundw
              case rel => exact ⟨3, by omega, by go_num, Lib.hid (fun _ => N1.out (by omega)), Lib.hid (fun h => by rw [HNR.out, HD1.out]; rfl), HB2.out⟩
              case measure => simp [intOf]
          · have hbd := HBD.out 0
            obtain ⟨lo, hlo⟩ : ∃ x, x = Gp.low (Gp.cells ss zs 0) := ⟨_, rfl⟩
            obtain ⟨hi, hhi⟩ : ∃ x, x = Gp.high (Gp.cells ss zs 0) := ⟨_, rfl⟩
            have hsd : Gp.side k ss zs = (hi - lo == (k : Int) - 1) := by rw [hlo, hhi]; rfl
            rw [← hlo, ← hhi] at hbd
            have u1 : IntKind.i64.wrap (hi - lo) = hi - lo := IntWalk.i64_in _ (by omega)
            have u2 : IntKind.i64.wrap ((k : Int) - 1) = (k : Int) - 1 := IntWalk.i64_in _ (by omega)
            have CC := Lib.hid (sCells_any A n c ss A' k c' zs B B' 0 0 (by simp) wi hm (H.out.below HBI.out) (H'.out.below HBI.out) HV.out)
            have HLH := Lib.hid (And.intro hlo hhi)
            have HSD := Lib.hid hsd
            clear hbd hlo hhi hsd
            go_wp2_with fail
            refine CC.out.mono ?_
            rintro e w1 ⟨A2, n2, c2, rfl, ho, hn2, _, hb⟩
            have hn2k : n2 = k := by have := ho.len; rw [Gp.cells_len, HLEN'.out] at this; omega
            subst hn2k
            have CE := Lib.hid (sEnds_any A2 n2 c2 (Gp.cells ss zs 0) _ w1 hn2 h0 ho.rd)
            rw [← HLH.out.1, ← HLH.out.2] at CE
            have HB1 := Lib.hid (HBI.out.trans (hb.mono HBI.out.size)); clear ho hb
            go_wp2_with fail
            refine CE.out.mono ?_
            rintro e w2 ⟨rfl, hb⟩
            have HB2 := Lib.hid (HB1.out.trans (hb.mono HB1.out.size)); clear hb
            have mq := (HB2.out.cell (World.block_lt_of_cell? w _ M0.out)).trans M0.out
            go_wp2
            go_ret
            refine ⟨ret_bool ?_, HB2.out⟩
            rw [HQ.out, N1.out (by omega), N2.out (by omega), HSD.out]
            simp
  · have hrf : r = false := by rw [hr]; unfold Gp.grp; rw [h'.len, decide_eq_false hml]; simp
    subst hrf
    have e1 : ((m : Int) == l) = false := beq_eq_false_iff_ne.2 hml
    have e2 : decide ((m : Int) = l) = false := decide_eq_false hml
    clear hr h h'
    go_enter Try.func13, Try.ntmps13
    go_wp2
    go_ret
    exact ⟨rfl, Below.refl _ _⟩
end Go.Proofs.Ytgkpjeheoinpiaa.Wds
