/-
  LeastPressure: the model's functions, one contract each; the search by induction on what is to come.
-/
import Derived.Test.YtfmplneopmbfoaaSLive
import Derived.Test.YtfmplneopmbfoaaHasM
import Derived.Test.YtfmplneopmbfoaaSld
import Derived.Test.YtfmplneopmbfoaaILp
import Derived.Test.YtfmplneopmbfoaaVTask2
namespace Go.Proofs.Ytfmplneopmbfoaa.Wds
open Go.RowKit
set_option linter.unusedVariables false

/-- What the search returns. -/
def RetW (r : Option (List Int)) (base : Nat) (w : World) (e : Ending) (w' : World) : Prop :=
  ∃ (A : Option Addr) (n c : Nat), (∀ z, r = some z → e = .returned (.tuple #[.slice A n c, .bool true]) ∧ Own w' base w'.heap.size A n z ∧ n ≤ c) ∧ (r = none → e = .returned (.tuple #[.slice A n c, .bool false])) ∧ Below w.heap.size w w'
/-- One round of the search. -/
def wi (ts : List Tk.T) (m k : Nat) (o : List Int) (i : Nat) : Option (List Int) :=
  if (!o.contains (i : Int) && (Tk.nth ts i).ns.all fun x => o.contains x) && decide (Tk.liveL ts (o ++ [(i : Int)]) ≤ m) then Lp.srch ts m k (o ++ [(i : Int)]) else none
theorem srch_wi (ts : List Tk.T) (m k : Nat) (o : List Int) : Lp.srch ts m (k + 1) o = (List.range ts.length).findSome? (wi ts m k o) := rfl
theorem all_take {l : List Int} {p : Int → Bool} {j : Nat} (h : j < l.length) : (l.take (j + 1)).all p = ((l.take j).all p && p (l.getD j 0)) := by
  rw [List.take_succ_eq_append_getElem h, List.all_append, List.getD_eq_getElem?_getD, List.getElem?_eq_getElem h]
  simp
set_option maxRecDepth 100000 in
set_option maxHeartbeats 4000000 in
theorem sWithin_any (A : Option Addr) (n c : Nat) (ts : List Tk.T) (B m : Nat) (hn : Ln.totL (Tk.nss ts) ≤ 1048576) (h8 : n ≤ 8) (hlt : ts.length = n) :
    ∀ (k : Nat) (o : List Int) (ad : Addr) (c' base : Nat) (w : World), o.length + k = n → o.length ≤ c' → RdT w B A n ts → Own w base w.heap.size (some ad) o.length o → base ≤ w.heap.size →
      Calls Try.prog 73 #[.slice A n c, .slice (some ad) o.length c', .int .i64 (m : Int)] w (RetW (Lp.srch ts m k o) base w) := by
  obtain ⟨i0, hi0, hz0, hz1, hz2⟩ := info_parts A_info64
  intro k
  induction k with
  | zero =>
    intro o ad c' base w hk hc hT ho hb
    have HO := Lib.hid ho; clear ho hT
    have hz : o.length = n := by omega
    obtain ⟨d, hd⟩ : ∃ d, d = o.length := ⟨_, rfl⟩
    rw [← hd] at hz HO hc ⊢
    have HC := Lib.hid hc
    clear hd hk hc
    subst hz
    go_enter Try.func73, Try.ntmps73
    go_wp2
    go_ret2
    refine ⟨some ad, d, c', ?_, ?_, Below.refl _ _⟩
    · intro z hz
      have hz2 : some o = some z := hz
      injection hz2 with hz2
      subst hz2
      exact ⟨rfl, HO.out, HC.out⟩
    · intro h
      have h2 : some o = none := h
      cases h2
  | succ k ih =>
    intro o ad c' base w hk hc hT ho hb
    have IH := Lib.hid ih; clear ih
    have HT := Lib.hid hT
    have HO := Lib.hid ho
    have HR := Lib.hid ho.rd
    have HB := Lib.hid hb
    have HTN := Lib.hid hn
    have HLT := Lib.hid hlt
    have HW := Lib.hid (srch_wi ts m k o)
    rw [hlt] at HW
    obtain ⟨RR, hRR⟩ : ∃ R, R = Lp.srch ts m (k + 1) o := ⟨_, rfl⟩
    rw [← hRR] at HW ⊢
    obtain ⟨d, hd⟩ : ∃ d, d = o.length := ⟨_, rfl⟩
    rw [← hd] at HO HR hk ⊢
    have HD := Lib.hid hd
    have hne : ((d : Int) == (n : Int)) = false := beq_eq_false_iff_ne.2 (by omega)
    have hd8 : d ≤ 8 := by omega
    have hk' : d + 1 + k = n := by omega
    clear hRR hd hT ho hb hn hlt hc hk
    go_enter Try.func73, Try.ntmps73
    go_wp2
    go_loopw [8] (fun v wr => ∃ i : Nat, i ≤ n ∧ v = .int .i64 i ∧ Hid (∀ j, j < i → wi ts m k o j = none) ∧ Below w.heap.size w wr) (fun v _ => n - (intOf v).toNat)
    case atStart => exact ⟨0, Nat.zero_le _, rfl, Lib.hid (fun j hj => absurd hj (by omega)), Below.refl _ _⟩
    case round =>
      rename World => wr
      obtain ⟨i, hi, rfl, HNO, hb⟩ := hrel
      have HB1 := Lib.hid hb
      by_cases hlt : i < n
      · obtain ⟨g, ot, R, q, cq, rfl, hg, hc3, hq, hrn⟩ := (HT.out.below hb).at_ hlt
        have hqm : q ≤ 1048576 := by
          have h1 := Ln.row_le (Tk.nss ts) i (by rw [Tk.nss_len, HLT.out]; exact hlt)
          have h2 := hrn.len
          have h3 := HTN.out
          rw [Tk.nss_getD] at h1
          unfold Ln.totL at h3
          omega
        have CH := Lib.hid (sHas_any (some ad) d c' o w.heap.size (i : Int) wr (by omega) (HR.out.below hb))
        have HWI := Lib.hid (show wi ts m k o i = if (!o.contains (i : Int) && (Tk.nth ts i).ns.all fun x => o.contains x) && decide (Tk.liveL ts (o ++ [(i : Int)]) ≤ m) then Lp.srch ts m k (o ++ [(i : Int)]) else none from rfl)
        obtain ⟨ns, hns⟩ : ∃ l, l = (Tk.nth ts i).ns := ⟨_, rfl⟩
        rw [← hns] at HWI hrn
        have HC2 := Lib.hid hc3.2.2
        have HRN := Lib.hid hrn
        have hql := hrn.len
        obtain ⟨b0, hb0⟩ : ∃ b, b = o.contains (i : Int) := ⟨_, rfl⟩
        rw [← hb0] at CH HWI
        have i1 : (0 : Int) ≤ (i : Int) := by omega
        have i2 : (i : Int) < (n : Int) := by omega
        clear hb hc3 hrn hns hb0
        go_wp2_with fail
        refine CH.out.mono ?_
        rintro e w1 ⟨rfl, hb1⟩
        have HB2 := Lib.hid (HB1.out.trans (hb1.mono HB1.out.size))
        have HS1 := Lib.hid (hb1.size)
        have HC1 := Lib.hid hb1
        clear hb1 CH
        go_wp2
        go_loopw [9, 10] (fun rv v wk => ∃ j : Nat, j ≤ q ∧ v = .int .i64 j ∧ rv = .bool (!b0 && (ns.take j).all fun x => o.contains x) ∧ Below wr.heap.size wr wk) (fun _ v _ => q - (intOf v).toNat)
        case atStart => exact ⟨0, Nat.zero_le _, rfl, by simp, HC1.out⟩
        case round =>
          rename World => wk
          obtain ⟨j, hj, rfl, rfl, hb⟩ := hrel
          have hcc := (hb.cell (p := ⟨g, ot + i * 3 + 2, none⟩) (World.block_lt_of_cell? wr _ HC2.out)).trans HC2.out
          by_cases hlj : j < q
          · obtain ⟨gr, og, rfl, hgr, hcr⟩ := (HRN.out.below hb).at_ hlj
            have hbw := HB1.out.trans (hb.mono HB1.out.size)
            have CH2 := Lib.hid (fun x W (hW : Below wk.heap.size wk W) => sHas_any (some ad) d c' o w.heap.size x W (by omega) (HR.out.below (hbw.trans (hW.mono hbw.size))))
            have HAT := Lib.hid (all_take (l := ns) (p := fun x => o.contains x) (j := j) (by rw [hql]; exact hlj))
            obtain ⟨x, hx⟩ : ∃ x, x = ns.getD j 0 := ⟨_, rfl⟩
            rw [← hx] at hcr HAT
            obtain ⟨bx, hbx⟩ : ∃ b, b = o.contains x := ⟨_, rfl⟩
            have CX := Lib.hid (fun W (hW : Below wk.heap.size wk W) => hbx ▸ CH2.out x W hW : ∀ W, Below wk.heap.size wk W → Calls Try.prog 92 #[.slice (some ad) d c', .int .i64 x] W (RetB bx W))
            have HAT2 := Lib.hid (show (ns.take (j + 1)).all (fun x => o.contains x) = ((ns.take j).all (fun x => o.contains x) && bx) by rw [HAT.out, hbx])
            obtain ⟨ba, hba⟩ : ∃ b, b = (!b0 && (ns.take j).all fun x => o.contains x) := ⟨_, rfl⟩
            have HAT3 := Lib.hid (show (!b0 && (ns.take (j + 1)).all fun x => o.contains x) = (ba && bx) by rw [HAT2.out, hba, Bool.and_assoc])
            rw [← hba]
            have HBK := Lib.hid hb
            have j1 : (0 : Int) ≤ (j : Int) := by omega
            have j2 : (j : Int) < (q : Int) := by omega
            clear hb hbw hx hbx hba HAT HAT2 CH2
            cases ba
            · go_wp2
              go_roundw
              case rel => exact ⟨j + 1, by omega, by go_num, by rw [HAT3.out]; rfl, HBK.out⟩
              case measure => simp [intOf]; omega
            · go_wp2_with fail
              refine (CX.out _ (Below.refl _ _)).mono ?_
              rintro e w2 ⟨rfl, hb2⟩
              have HBK2 := Lib.hid (HBK.out.trans (hb2.mono HBK.out.size)); clear hb2
              go_wp2
              go_roundw
              case rel => exact ⟨j + 1, by omega, by go_num, by rw [HAT3.out]; rfl, HBK2.out⟩
              case measure => simp [intOf]; omega
          · have hjq : j = q := by omega
            have HBK := Lib.hid hb
            have hbw := HB1.out.trans (hb.mono HB1.out.size)
            have HBW := Lib.hid hbw
            have CO := Lib.hid (sOwnR_any ad d c' o _ wk (by omega) (HR.out.below hbw))
            have hta : (ns.take j).all (fun x => o.contains x) = ns.all fun x => o.contains x := by rw [hjq, ← hql, List.take_length]
            rw [hta]
            obtain ⟨ba, hba⟩ : ∃ b, b = (!b0 && ns.all fun x => o.contains x) := ⟨_, rfl⟩
            rw [← hba] at HWI ⊢
            have j2 : ¬ (j : Int) < (q : Int) := by omega
            clear hb hbw hta hba hlj
            go_wp2_with fail
            refine CO.out.mono ?_
            rintro e w3 ⟨v3, rfl, hown3, hb3⟩
            have HO3 := Lib.hid hown3
            have HB3 := Lib.hid hb3
            clear hown3 hb3 CO
            go_wp2_with (at_builtin; refine wpList_push _ rfl (.tmp 54) (.tmp 56) rfl i0 Try.underlying25 hi0 hz0 hz1 hz2 wk.heap.size _ d o (i : Int) rfl HO3.out rfl (by omega) HB3.out.size ?_)
            intro v' w4 hown4a hb4
            have hown4 : w4.ownsRow wk.heap.size 2 1 v' (d + 1) ((o ++ [(i : Int)]).map (Value.int .i64)) := by simpa using hown4a
            obtain ⟨g4, c4, rfl, hc4, ho4⟩ := own_some hown4 (by omega)
            have HB4 := Lib.hid (HBW.out.trans ((HB3.out.trans hb4).mono HBW.out.size))
            have HO4 := Lib.hid (ho4.more (Nat.le_trans HB.out HBW.out.size) (Nat.le_refl _))
            have hln : ((o ++ [(i : Int)]).length) = d + 1 := by rw [List.length_append, ← HD.out]; rfl
            have CL := Lib.hid (sLive_any (some ⟨g, ot, none⟩) n c ts B (some ⟨g4, 0, none⟩) (d + 1) c4 (o ++ [(i : Int)]) _ w4 HTN.out (by omega) (HT.out.below HB4.out) ho4.rd)
            have HLN := Lib.hid hln
            clear hown4 hown4a hb4 ho4 HO3 hln
            cases ba
            · go_wp2
              go_roundw
              case rel => exact ⟨i + 1, by omega, by go_num, Lib.hid (show ∀ j, j < i + 1 → wi ts m k o j = none from fun j hj => by
                  rcases Nat.lt_or_ge j i with h1 | h1
                  · exact HNO.out j h1
                  · obtain rfl : j = i := by omega
                    rw [HWI.out]; simp), HB4.out⟩
              case measure => simp [intOf]; omega
            · rw [Bool.true_and] at HWI
              obtain ⟨lv, hlv⟩ : ∃ l, l = Tk.liveL ts (o ++ [(i : Int)]) := ⟨_, rfl⟩
              rw [← hlv] at CL HWI
              clear hlv
              by_cases hlm : (m : Int) < (lv : Int)
              · rw [decide_eq_false (by omega), if_neg (by simp)] at HWI
                go_wp2_with fail
                refine CL.out.mono ?_
                rintro e w5 ⟨rfl, hb5⟩
                have HB5 := Lib.hid (HB4.out.trans (hb5.mono HB4.out.size)); clear hb5
                go_wp2
                go_roundw
                case rel => exact ⟨i + 1, by omega, by go_num, Lib.hid (show ∀ j, j < i + 1 → wi ts m k o j = none from fun j hj => by
                    rcases Nat.lt_or_ge j i with h1 | h1
                    · exact HNO.out j h1
                    · obtain rfl : j = i := by omega
                      exact HWI.out), HB5.out⟩
                case measure => simp [intOf]; omega
              · rw [decide_eq_true (by omega), if_pos rfl] at HWI
                have hlm2 : ¬ (m : Int) < (lv : Int) := hlm
                clear hlm
                go_wp2_with fail
                refine CL.out.mono ?_
                rintro e w5 ⟨rfl, hb5⟩
                have HB5 := Lib.hid (HB4.out.trans (hb5.mono HB4.out.size))
                have HO5 := Lib.hid ((HO4.out.below hb5).more (Nat.le_refl _) hb5.size)
                clear hb5 CL
                have CI := IH.out (o ++ [(i : Int)]) ⟨g4, 0, none⟩ c4 base w5 (by rw [HLN.out]; exact hk') (by rw [HLN.out]; exact hc4) (HT.out.below HB5.out) (by rw [HLN.out]; exact HO5.out) (Nat.le_trans HB.out HB5.out.size)
                rw [HLN.out, ← HWI.out] at CI
                have HCI := Lib.hid CI; clear CI
                obtain ⟨r, hr⟩ : ∃ r, r = wi ts m k o i := ⟨_, rfl⟩
                rw [← hr] at HCI HWI
                have HRI := Lib.hid hr; clear hr
                cases r
                · go_wp2_with fail
                  refine HCI.out.mono ?_
                  rintro e w6 ⟨A6, n6, c6, _, h6, hb6⟩
                  obtain rfl := h6 rfl
                  have HB6 := Lib.hid (HB5.out.trans (hb6.mono HB5.out.size)); clear hb6 h6
                  go_wp2
                  go_roundw
                  case rel => exact ⟨i + 1, by omega, by go_num, Lib.hid (show ∀ j, j < i + 1 → wi ts m k o j = none from fun j hj => by
                      rcases Nat.lt_or_ge j i with h1 | h1
                      · exact HNO.out j h1
                      · obtain rfl : j = i := by omega
                        exact HRI.out.symm), HB6.out⟩
                  case measure => simp [intOf]; omega
                · rename_i z
                  go_wp2_with fail
                  refine HCI.out.mono ?_
                  rintro e w6 ⟨A6, n6, c6, h6, _, hb6⟩
                  obtain ⟨rfl, ho6, hc6⟩ := h6 z rfl
                  have HB6 := Lib.hid (HB5.out.trans (hb6.mono HB5.out.size))
                  have HO6 := Lib.hid ho6
                  clear hb6 h6 ho6
                  go_wp2
                  go_ret2
                  have hres : RR = some z := by rw [HW.out]; exact Lp.findSome_first (i := i) (by omega) HRI.out.symm HNO.out
                  refine ⟨A6, n6, c6, ?_, ?_, HB6.out⟩
                  · intro y hy
                    rw [hres] at hy
                    injection hy with hy
                    subst hy
                    exact ⟨rfl, HO6.out, hc6⟩
                  · intro h
                    rw [hres] at h
                    cases h
      · have hin : i = n := by omega
        have hnone : RR = none := by
          rw [HW.out, List.findSome?_eq_none_iff]
          intro x hx
          exact HNO.out x (by rw [hin]; exact List.mem_range.1 hx)
        have HNN := Lib.hid hnone
        have i2 : ¬ (i : Int) < (n : Int) := by omega
        clear hb hin hlt hnone
        go_wp2
        go_ret2
        refine ⟨some ⟨wr.heap.size, 0, none⟩, 0, 0, ?_, ?_, HB1.out.alloc HB1.out.size _⟩
        rotate_left
        · intro _
          exact rfl
        · intro z hz
          rw [HNN.out] at hz
          cases hz
set_option maxRecDepth 100000 in
set_option maxHeartbeats 4000000 in
theorem sLeastPressure_any (A : Option Addr) (n c : Nat) (ts : List Tk.T) (B : Nat) (w : World) (hn : Ln.totL (Tk.nss ts) ≤ 1048576) (h : RdT w B A n ts) :
    Calls Try.prog 38 #[.slice A n c] w (Ret1IB (Lp.leastOf ts).1 ((Lp.leastOf ts).2.1 : Nat) (Lp.leastOf ts).2.2 w) := by
  have CV := Lib.hid (sIsT_any A n c ts B w hn h)
  have HL := Lib.hid h.len
  have HT := Lib.hid h
  have HTN := Lib.hid hn
  clear h hn
  obtain ⟨R, hR⟩ : ∃ R, R = Lp.leastOf ts := ⟨_, rfl⟩
  rw [← hR]
  have HR := Lib.hid hR; clear hR
  obtain ⟨v, hv⟩ : ∃ v, v = Tk.valid ts := ⟨_, rfl⟩
  rw [← hv] at CV
  have HV := Lib.hid hv.symm; clear hv
  cases v
  · have HRR := Lib.hid (show R = ([], 0, false) by rw [HR.out, Lp.leastOf, HV.out]; rfl)
    go_enter Try.func38, Try.ntmps38
    go_wp2_with fail
    refine CV.out.mono ?_
    rintro e w1 ⟨rfl, hb⟩
    have HB := Lib.hid hb; clear hb
    go_wp2
    go_ret3
    rw [HRR.out]
    exact ⟨none, 0, 0, rfl, Own.nil _ _ _ _, Nat.zero_le _, Nat.le_refl _, HB.out⟩
  · have HRR := Lib.hid (show R = (Lp.order ts, Lp.least ts, true) by rw [HR.out, Lp.leastOf, HV.out]; rfl)
    have h8 : n ≤ 8 := by rw [← HL.out]; exact Tk.len_of_valid HV.out
    have hF8 : Lp.least ts ≤ 8 := Lp.F_le8 (Tk.needs ts) (by rw [Tk.needs_len, HL.out]; exact h8) (Nat.two_pow_pos _)
    have HSR := Lib.hid (fun q => (show Lp.srch ts q n [] = if Lp.least ts ≤ q then some (Lp.grd (Tk.needs ts) q n 0) else none by rw [← HL.out]; exact Lp.srch_least HV.out q))
    have HOR := Lib.hid (show Lp.order ts = Lp.grd (Tk.needs ts) (Lp.least ts) n 0 by rw [← HL.out]; rfl)
    obtain ⟨m, hm⟩ : ∃ m, m = Lp.least ts := ⟨_, rfl⟩
    rw [← hm] at HRR hF8 HSR HOR
    clear hm
    go_enter Try.func38, Try.ntmps38
    go_wp2_with fail
    refine CV.out.mono ?_
    rintro e w1 ⟨rfl, hb⟩
    have HB := Lib.hid hb; clear hb
    go_wp2
    go_loopw [5] (fun v wr => ∃ q : Nat, q ≤ m ∧ v = .int .i64 q ∧ Below w.heap.size w wr) (fun v _ => m - (intOf v).toNat)
    case atStart => exact ⟨0, Nat.zero_le _, rfl, HB.out⟩
    case round =>
      rename World => wr
      obtain ⟨q, hq, rfl, hb⟩ := hrel
      have hb2 := hb.alloc hb.size (.cells #[] 2)
      have CW := sWithin_any A n c ts B q HTN.out h8 HL.out n [] ⟨wr.heap.size, 0, none⟩ 0 w.heap.size (wr.alloc (.cells #[] 2)) (by simp) (Nat.le_refl _) (HT.out.below hb2) (Own.nil _ _ _ _) hb2.size
      rw [HSR.out] at CW
      have HB2 := Lib.hid hb2
      clear hb hb2
      by_cases hqm : q < m
      · rw [if_neg (by omega)] at CW
        have HCW := Lib.hid CW; clear CW
        go_wp2_with fail
        refine HCW.out.mono ?_
        rintro e w6 ⟨A6, n6, c6, _, h6, hb6⟩
        obtain rfl := h6 rfl
        have HB6 := Lib.hid (HB2.out.trans (hb6.mono HB2.out.size)); clear hb6 h6
        go_wp2
        go_roundw
        case rel => exact ⟨q + 1, by omega, by go_num, HB6.out⟩
        case measure => simp [intOf]; omega
      · obtain rfl : q = m := by omega
        rw [if_pos (Nat.le_refl _)] at CW
        have HCW := Lib.hid CW; clear CW
        go_wp2_with fail
        refine HCW.out.mono ?_
        rintro e w6 ⟨A6, n6, c6, h6, _, hb6⟩
        obtain ⟨rfl, ho6, hc6⟩ := h6 _ rfl
        have HB6 := Lib.hid (HB2.out.trans (hb6.mono HB2.out.size))
        have HO6 := Lib.hid ho6
        clear hb6 h6 ho6
        go_wp2
        go_ret3
        rw [HRR.out]
        have hl6 := HO6.out.len
        rw [Lp.grd_len] at hl6
        refine ⟨A6, n6, c6, rfl, ?_, by omega, hc6, HB6.out⟩
        rw [HOR.out]
        exact HO6.out
end Go.Proofs.Ytfmplneopmbfoaa.Wds
