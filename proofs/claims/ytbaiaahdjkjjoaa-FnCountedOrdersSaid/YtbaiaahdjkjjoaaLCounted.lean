/-
  The walk of the law FnCountedOrders: for every input that can be read it returns true, and nothing that was there has changed.
-/
import Derived.Test.YtbaiaahdjkjjoaaDrawS
import Derived.Test.YtbaiaahdjkjjoaaCoL
import Derived.Test.YtbaiaahdjkjjoaaCount
import Derived.Test.YtbaiaahdjkjjoaaOrder
import Derived.Test.YtbaiaahdjkjjoaaPush
namespace Go.Proofs.Ytbaiaahdjkjjoaa.Wds
open Go.RowKit
set_option linter.unusedVariables false

theorem IsRow.lenC {k : IntKind} {w : World} {a : Option Addr} {len cap : Nat} {zs : List Int} (h : IsRow k w a len cap zs) : len ≤ maxLen := by
  rcases h with ⟨_, rfl, _, _⟩ | ⟨x, _, h1, h2, _⟩
  · exact Nat.zero_le _
  · exact Nat.le_trans h1 h2
theorem RdS.cut {w : World} {B n : Nat} {A : Option Addr} {ss : List Sc.St} (h : RdS w B A n ss) (m : Nat) (hm : m ≤ n) : RdS w B A m (ss.take m) := by
  have hl := h.1
  refine ⟨by simp; omega, fun hn => ?_⟩
  obtain ⟨g, o, e, hg, hc⟩ := h.2 (by omega)
  refine ⟨g, o, e, hg, fun j s hs => hc j s ?_⟩
  rw [List.getElem?_take] at hs
  split at hs
  · exact hs
  · cases hs
theorem valid_take {ss : List Sc.St} (h : Sc.valid ss = true) (m : Nat) : Sc.valid (ss.take m) = true := by
  unfold Sc.valid at h ⊢
  rw [Bool.and_eq_true] at h ⊢
  refine ⟨?_, decide_eq_true (by have := of_decide_eq_true h.2; simp; omega)⟩
  rw [List.all_eq_true] at h ⊢
  exact fun x hx => h.1 x (List.mem_of_mem_take hx)
theorem pow_le5 {m j : Nat} (hm : m ≤ 5) (hj : j ≤ m) : m ^ j ≤ 3125 := by
  have : m = 0 ∨ m = 1 ∨ m = 2 ∨ m = 3 ∨ m = 4 ∨ m = 5 := by omega
  rcases this with rfl | rfl | rfl | rfl | rfl | rfl
  · rw [show j = 0 by omega]; decide
  · rw [Nat.one_pow]; decide
  all_goals exact Nat.le_trans (Nat.pow_le_pow_right (by decide) hj) (by decide)
theorem owns_cap {w : World} {B n : Nat} {v : Value} {xs : List Value} (h : w.ownsRow B 2 1 v n xs) : ∃ A c, v = .slice A n c ∧ n ≤ c := by
  rcases h.2 with ⟨rfl, e⟩ | ⟨g, cap, cur, rfl, _, _, hnc, _⟩
  · exact ⟨none, 0, by rw [e], by omega⟩
  · exact ⟨_, _, rfl, hnc⟩
/-- What the walk is told of the code that was drawn. -/
structure Few (w wr : World) (A : Option Addr) (m c : Nat) (ts : List Sc.St) : Prop where
  le5 : m ≤ 5
  cap : m ≤ c
  valid : Sc.valid ts = true
  rd : RdS wr wr.heap.size A m ts
  bel : Below w.heap.size w wr
set_option maxHeartbeats 2000000 in
set_option maxRecDepth 100000 in
theorem law_counted (a0 : Option Addr) (len0 cap0 : Nat) (z0 : List Int) (a1 : Option Addr) (len1 cap1 : Nat) (z1 : List Int) (w : World) (r0 : IsRow .u8 w a0 len0 cap0 z0) (r1 : IsRow .u8 w a1 len1 cap1 z1) :
    Calls Try.prog 3 #[.slice a0 len0 cap0, .slice a1 len1 cap1] w fun e w' => e = .returned (.bool true) ∧ Below w.heap.size w w' := by
  obtain ⟨i0, hi, hz0, hz1, hz2⟩ := info_parts A_info64
  have cl := long_any a0 a1 len0 cap0 len1 cap1 w r0.lenC r1.lenC
  by_cases hlong : 1048576 < len0 ∨ 1048576 < len1
  · rw [decide_eq_true hlong] at cl
    have CL := Lib.hid cl
    clear cl hlong r0 r1
    go_enter Try.func3, Try.ntmps3
    go_wp2_with fail
    refine CL.out.mono ?_
    rintro e w' ⟨rfl, rfl⟩
    go_wp2_with fail
    go_ret
    exact ⟨rfl, Below.refl _ _⟩
  · rw [decide_eq_false hlong] at cl
    have CL := Lib.hid cl
    have R0 := Lib.hid r0
    clear cl hlong r0 r1
    go_enter Try.func3, Try.ntmps3
    go_wp2_with fail
    refine CL.out.mono ?_
    rintro e w' ⟨rfl, rfl⟩
    go_wp2_with fail
    refine (b10code_any _ _ _ z0 _ R0.out).mono ?_
    rintro e w1 ⟨A, n, c, ss, rfl, hnc, hv, hr, hb⟩
    by_cases h5 : 5 < n
    · have hn1 : n ≤ 16 := by have := Sc.len_of_valid hv; rw [hr.len] at this; exact this
      obtain ⟨ts, ht⟩ : ∃ t, t = ss.take 5 := ⟨_, rfl⟩
      have HF : Hid (Few w w1 A 5 c ts) := by rw [ht]; exact ⟨Nat.le_refl _, by omega, valid_take hv 5, hr.cut 5 (by omega), hb⟩
      obtain ⟨g, o, rfl, _⟩ := hr.at_ (k := 0) (by omega)
      have c5 : (5 : Int) ≤ (c : Int) := by omega
      clear ht hv hr hb
      go_wp2_with fail
      refine (iCountOrders_any (some ⟨g, o, none⟩) 5 c ts _ _ (by omega) HF.out.cap HF.out.rd).mono ?_
      rintro e w2 ⟨rfl, hb⟩
      have hts : ts.length = 5 := HF.out.rd.len
      have hcy := count_yes (ss := ts) (by rw [HF.out.valid, hts, decide_eq_true (by omega)]; rfl)
      rw [hcy]
      have HB2 := Lib.hid (HF.out.bel.trans (hb.mono HF.out.bel.size))
      have HR2 := Lib.hid (HF.out.rd.below hb)
      have HW1 := Lib.hid (Sc.ways_one (c := ts) (by rw [hts]; exact HF.out.le5))
      have HWA := Lib.hid (Sc.ords_all HF.out.valid (by rw [hts]; exact HF.out.le5))
      obtain ⟨W, hW⟩ : ∃ x, x = (Sc.dp ts ts.length (2 ^ ts.length)).getD (2 ^ ts.length - 1) 0 := ⟨_, rfl⟩
      rw [← hW] at HW1 HWA
      have hW1 : 1 ≤ W := HW1.out
      have HL := Lib.hid hts
      rw [← hW]
      clear hb hcy hts hW
      go_wp2
      go_loop [9, 10] (fun p i => ∃ j : Nat, j ≤ 5 ∧ i = .int .i64 j ∧ p = .int .i64 ((5 ^ j : Nat) : Int)) (fun _ i => 5 - (intOf i).toNat)
      case atStart => exact ⟨0, Nat.zero_le _, rfl, by simp⟩
      case round =>
        obtain ⟨j, hj, rfl, rfl⟩ := hrel
        have hp := pow_le5 (m := 5) (j := j) (by omega) hj
        obtain ⟨p, hpp⟩ : ∃ p, p = 5 ^ j := ⟨_, rfl⟩
        rw [← hpp] at hp ⊢
        have HP := Lib.hid hpp
        clear hpp
        by_cases hlt : j < 5
        · have hmul : p * 5 ≤ 3125 * 5 := Nat.mul_le_mul hp (by omega)
          have e1 : IntKind.i64.wrap ((p : Int) * (5 : Int)) = ((p * 5 : Nat) : Int) := by rw [IntKind.wrap_i64]; push_cast; omega
          go_wp2
          go_round
          case rel => exact ⟨j + 1, by omega, by go_num, by rw [Nat.pow_succ, ← HP.out]; go_num⟩
          case measure => simp [intOf]; omega
        · obtain rfl : 5 = j := by omega
          have HALL := Lib.hid (show Sc.ords ts p = W by rw [← HWA.out, HL.out, HP.out])
          go_wp2
          go_loopw [11, 12, 13, 14, 15] (fun own kv _ _ _ wr => ∃ q : Nat, q ≤ p ∧ kv = .int .i64 q ∧ own = .int .i64 (Sc.ords ts q) ∧ Below w2.heap.size w2 wr) (fun _ kv _ _ _ _ => p - (intOf kv).toNat)
          case atStart => exact ⟨0, Nat.zero_le _, rfl, rfl, Below.refl _ _⟩
          case round =>
            rename World => wr
            obtain ⟨q, hq, rfl, rfl, hb⟩ := hrel
            have ho := Sc.ords_bd ts q
            have hos := Sc.ords_succ ts q
            obtain ⟨ow, how⟩ : ∃ x, x = Sc.ords ts q := ⟨_, rfl⟩
            rw [← how] at ho hos ⊢
            have HOS := Lib.hid hos
            have HOW := Lib.hid how
            have o1 := ho.1
            have o2 := ho.2
            have HB := Lib.hid hb
            clear hos how hb ho
            by_cases hlq : q < p
            · go_wp2
              go_loopw [13, 14, 15] (fun v r i wi => ∃ j : Nat, j ≤ 5 ∧ i = .int .i64 j ∧ r = .int .i64 ((q / 5 ^ j : Nat) : Int) ∧ wi.ownsRow wr.heap.size 2 1 v j ((Sc.dg 5 q j).map (Value.int .i64)) ∧ Below wr.heap.size wr wi) (fun _ _ i _ => 5 - (intOf i).toNat)
              case atStart =>
                refine ⟨0, Nat.zero_le _, rfl, by simp, ?_, (Below.refl _ _).alloc (Nat.le_refl _) _⟩
                refine ⟨rfl, .inr ⟨wr.heap.size, 0, #[], rfl, Nat.le_refl _, ?_, Nat.le_refl _, Nat.zero_le _, rfl, rfl⟩⟩
                show (wr.heap.push _)[wr.heap.size]? = _
                simp
              case round =>
                rename World => wi
                obtain ⟨j, hj, rfl, rfl, hown, hbi⟩ := hrel
                have HOWN := Lib.hid hown
                have HBI := Lib.hid hbi
                clear hown hbi
                obtain ⟨t, ht⟩ : ∃ x, x = q / 5 ^ j := ⟨_, rfl⟩
                have ht2 : t ≤ 3125 := by rw [ht]; exact Nat.le_trans (Nat.div_le_self _ _) (by omega)
                rw [← ht]
                have HT := Lib.hid ht
                clear ht
                by_cases hlj : j < 5
                · have hm0 : (0 : Int) < (5 : Int) := by omega
                  have hm1 : ¬ ((5 : Int) = 0) := by omega
                  have t0 : (0 : Int) ≤ (t : Int) := by omega
                  have t3 : (0 : Int) ≤ (t : Int) / (5 : Int) := Int.ediv_nonneg t0 (by omega)
                  have t4 : (t : Int) / (5 : Int) ≤ 3125 := Int.le_trans (Int.ediv_le_self _ t0) (by omega)
                  go_wp2_with (at_builtin; refine wpList_push _ rfl _ _ rfl i0 Try.underlying28 hi hz0 hz1 hz2 _ _ _ _ _ rfl HOWN.out rfl (by omega) HBI.out.size ?_; intro v' w5 hown5 hb5; have HO5 := Lib.hid hown5; have HB5 := Lib.hid (HBI.out.trans hb5); clear hown5 hb5)
                  go_wp2
                  go_roundw
                  case rel =>
                    refine ⟨j + 1, by omega, by go_num, ?_, ?_, HB5.out⟩
                    · rw [Nat.pow_succ, ← Nat.div_div_eq_div_mul, ← HT.out]; go_num
                    · have h := HO5.out
                      rw [Sc.dg, ← HT.out]
                      have e : ((t % 5 : Nat) : Int) = (t : Int) % (5 : Int) := by push_cast; rfl
                      rw [e]; exact h
                  case measure => simp [intOf]; omega
                · obtain rfl : 5 = j := by omega
                  obtain ⟨A7, c7, rfl, hc7⟩ := owns_cap HOWN.out
                  have ho7 := Own.of_row HOWN.out
                  have CO := Lib.hid (iIsOrder_any (some ⟨g, o, none⟩) 5 c ts _ A7 5 c7 _ _ wi (by omega) HF.out.cap (by omega) hc7 ((HR2.out.below HB.out).below HBI.out) ho7.rd)
                  rw [show Sc.dg 5 q 5 = Sc.dg ts.length q ts.length by rw [HL.out]] at CO
                  obtain ⟨b, hb⟩ : ∃ b, b = Sc.isOrder ts (Sc.dg ts.length q ts.length) := ⟨_, rfl⟩
                  rw [← hb] at CO HOS
                  clear hb ho7
                  cases b
                  · go_wp2_with fail
                    refine CO.out.mono ?_
                    rintro e w8 ⟨rfl, hb8⟩
                    have HB8 := Lib.hid (HB.out.trans ((HBI.out.trans (hb8.mono HBI.out.size)).mono HB.out.size))
                    clear hb8
                    go_wp2
                    go_roundw
                    case rel => exact ⟨q + 1, by omega, by go_num, by rw [HOS.out]; simp, HB8.out⟩
                    case measure => simp [intOf]; omega
                  · go_wp2_with fail
                    refine CO.out.mono ?_
                    rintro e w8 ⟨rfl, hb8⟩
                    have HB8 := Lib.hid (HB.out.trans ((HBI.out.trans (hb8.mono HBI.out.size)).mono HB.out.size))
                    clear hb8
                    go_wp2
                    go_roundw
                    case rel => exact ⟨q + 1, by omega, by go_num, by rw [HOS.out]; simp, HB8.out⟩
                    case measure => simp [intOf]; omega
            · obtain rfl : p = q := by omega
              have e1 := HOW.out.trans HALL.out
              have HBB := Lib.hid (HB2.out.trans (HB.out.mono HB2.out.size))
              have HE1 := Lib.hid e1
              have c1 : (ow == W) = true := by rw [e1]; simp
              have c2 : decide (1 ≤ W) = true := decide_eq_true hW1
              clear e1
              go_wp2
              go_ret
              exact ⟨ret_bool (by first | rfl | (rw [HE1.out]; simp; exact hW1)), HBB.out⟩
    · have hm5 : n ≤ 5 := by omega
      obtain ⟨ts, ht⟩ : ∃ t, t = ss := ⟨_, rfl⟩
      have HF : Hid (Few w w1 A n c ts) := by rw [ht]; exact ⟨hm5, hnc, hv, hr, hb⟩
      clear ht hnc hv hr hb
      go_wp2_with fail
      refine (iCountOrders_any A n c ts _ _ (by omega) HF.out.cap HF.out.rd).mono ?_
      rintro e w2 ⟨rfl, hb⟩
      have hts : ts.length = n := HF.out.rd.len
      have hcy := count_yes (ss := ts) (by rw [HF.out.valid, hts, decide_eq_true (by omega)]; rfl)
      rw [hcy]
      have HB2 := Lib.hid (HF.out.bel.trans (hb.mono HF.out.bel.size))
      have HR2 := Lib.hid (HF.out.rd.below hb)
      have HW1 := Lib.hid (Sc.ways_one (c := ts) (by rw [hts]; exact HF.out.le5))
      have HWA := Lib.hid (Sc.ords_all HF.out.valid (by rw [hts]; exact HF.out.le5))
      obtain ⟨W, hW⟩ : ∃ x, x = (Sc.dp ts ts.length (2 ^ ts.length)).getD (2 ^ ts.length - 1) 0 := ⟨_, rfl⟩
      rw [← hW] at HW1 HWA
      have hW1 : 1 ≤ W := HW1.out
      have HL := Lib.hid hts
      rw [← hW]
      clear hb hcy hts hW
      go_wp2
      go_loop [9, 10] (fun p i => ∃ j : Nat, j ≤ n ∧ i = .int .i64 j ∧ p = .int .i64 ((n ^ j : Nat) : Int)) (fun _ i => n - (intOf i).toNat)
      case atStart => exact ⟨0, Nat.zero_le _, rfl, by simp⟩
      case round =>
        obtain ⟨j, hj, rfl, rfl⟩ := hrel
        have hp := pow_le5 (m := n) (j := j) (by omega) hj
        obtain ⟨p, hpp⟩ : ∃ p, p = n ^ j := ⟨_, rfl⟩
        rw [← hpp] at hp ⊢
        have HP := Lib.hid hpp
        clear hpp
        by_cases hlt : j < n
        · have hmul : p * n ≤ 3125 * 5 := Nat.mul_le_mul hp (by omega)
          have e1 : IntKind.i64.wrap ((p : Int) * (n : Int)) = ((p * n : Nat) : Int) := by rw [IntKind.wrap_i64]; push_cast; omega
          go_wp2
          go_round
          case rel => exact ⟨j + 1, by omega, by go_num, by rw [Nat.pow_succ, ← HP.out]; go_num⟩
          case measure => simp [intOf]; omega
        · obtain rfl : n = j := by omega
          have HALL := Lib.hid (show Sc.ords ts p = W by rw [← HWA.out, HL.out, HP.out])
          go_wp2
          go_loopw [11, 12, 13, 14, 15] (fun own kv _ _ _ wr => ∃ q : Nat, q ≤ p ∧ kv = .int .i64 q ∧ own = .int .i64 (Sc.ords ts q) ∧ Below w2.heap.size w2 wr) (fun _ kv _ _ _ _ => p - (intOf kv).toNat)
          case atStart => exact ⟨0, Nat.zero_le _, rfl, rfl, Below.refl _ _⟩
          case round =>
            rename World => wr
            obtain ⟨q, hq, rfl, rfl, hb⟩ := hrel
            have ho := Sc.ords_bd ts q
            have hos := Sc.ords_succ ts q
            obtain ⟨ow, how⟩ : ∃ x, x = Sc.ords ts q := ⟨_, rfl⟩
            rw [← how] at ho hos ⊢
            have HOS := Lib.hid hos
            have HOW := Lib.hid how
            have o1 := ho.1
            have o2 := ho.2
            have HB := Lib.hid hb
            clear hos how hb ho
            by_cases hlq : q < p
            · go_wp2
              go_loopw [13, 14, 15] (fun v r i wi => ∃ j : Nat, j ≤ n ∧ i = .int .i64 j ∧ r = .int .i64 ((q / n ^ j : Nat) : Int) ∧ wi.ownsRow wr.heap.size 2 1 v j ((Sc.dg n q j).map (Value.int .i64)) ∧ Below wr.heap.size wr wi) (fun _ _ i _ => n - (intOf i).toNat)
              case atStart =>
                refine ⟨0, Nat.zero_le _, rfl, by simp, ?_, (Below.refl _ _).alloc (Nat.le_refl _) _⟩
                refine ⟨rfl, .inr ⟨wr.heap.size, 0, #[], rfl, Nat.le_refl _, ?_, Nat.le_refl _, Nat.zero_le _, rfl, rfl⟩⟩
                show (wr.heap.push _)[wr.heap.size]? = _
                simp
              case round =>
                rename World => wi
                obtain ⟨j, hj, rfl, rfl, hown, hbi⟩ := hrel
                have HOWN := Lib.hid hown
                have HBI := Lib.hid hbi
                clear hown hbi
                obtain ⟨t, ht⟩ : ∃ x, x = q / n ^ j := ⟨_, rfl⟩
                have ht2 : t ≤ 3125 := by rw [ht]; exact Nat.le_trans (Nat.div_le_self _ _) (by omega)
                rw [← ht]
                have HT := Lib.hid ht
                clear ht
                by_cases hlj : j < n
                · have hm0 : (0 : Int) < (n : Int) := by omega
                  have hm1 : ¬ ((n : Int) = 0) := by omega
                  have t0 : (0 : Int) ≤ (t : Int) := by omega
                  have t3 : (0 : Int) ≤ (t : Int) / (n : Int) := Int.ediv_nonneg t0 (by omega)
                  have t4 : (t : Int) / (n : Int) ≤ 3125 := Int.le_trans (Int.ediv_le_self _ t0) (by omega)
                  go_wp2_with (at_builtin; refine wpList_push _ rfl _ _ rfl i0 Try.underlying28 hi hz0 hz1 hz2 _ _ _ _ _ rfl HOWN.out rfl (by omega) HBI.out.size ?_; intro v' w5 hown5 hb5; have HO5 := Lib.hid hown5; have HB5 := Lib.hid (HBI.out.trans hb5); clear hown5 hb5)
                  go_wp2
                  go_roundw
                  case rel =>
                    refine ⟨j + 1, by omega, by go_num, ?_, ?_, HB5.out⟩
                    · rw [Nat.pow_succ, ← Nat.div_div_eq_div_mul, ← HT.out]; go_num
                    · have h := HO5.out
                      rw [Sc.dg, ← HT.out]
                      have e : ((t % n : Nat) : Int) = (t : Int) % (n : Int) := by push_cast; rfl
                      rw [e]; exact h
                  case measure => simp [intOf]; omega
                · obtain rfl : n = j := by omega
                  obtain ⟨A7, c7, rfl, hc7⟩ := owns_cap HOWN.out
                  have ho7 := Own.of_row HOWN.out
                  have CO := Lib.hid (iIsOrder_any A n c ts _ A7 n c7 _ _ wi (by omega) HF.out.cap (by omega) hc7 ((HR2.out.below HB.out).below HBI.out) ho7.rd)
                  rw [show Sc.dg n q n = Sc.dg ts.length q ts.length by rw [HL.out]] at CO
                  obtain ⟨b, hb⟩ : ∃ b, b = Sc.isOrder ts (Sc.dg ts.length q ts.length) := ⟨_, rfl⟩
                  rw [← hb] at CO HOS
                  clear hb ho7
                  cases b
                  · go_wp2_with fail
                    refine CO.out.mono ?_
                    rintro e w8 ⟨rfl, hb8⟩
                    have HB8 := Lib.hid (HB.out.trans ((HBI.out.trans (hb8.mono HBI.out.size)).mono HB.out.size))
                    clear hb8
                    go_wp2
                    go_roundw
                    case rel => exact ⟨q + 1, by omega, by go_num, by rw [HOS.out]; simp, HB8.out⟩
                    case measure => simp [intOf]; omega
                  · go_wp2_with fail
                    refine CO.out.mono ?_
                    rintro e w8 ⟨rfl, hb8⟩
                    have HB8 := Lib.hid (HB.out.trans ((HBI.out.trans (hb8.mono HBI.out.size)).mono HB.out.size))
                    clear hb8
                    go_wp2
                    go_roundw
                    case rel => exact ⟨q + 1, by omega, by go_num, by rw [HOS.out]; simp, HB8.out⟩
                    case measure => simp [intOf]; omega
            · obtain rfl : p = q := by omega
              have e1 := HOW.out.trans HALL.out
              have HBB := Lib.hid (HB2.out.trans (HB.out.mono HB2.out.size))
              have HE1 := Lib.hid e1
              have c1 : (ow == W) = true := by rw [e1]; simp
              have c2 : decide (1 ≤ W) = true := decide_eq_true hW1
              clear e1
              go_wp2
              go_ret
              exact ⟨ret_bool (by first | rfl | (rw [HE1.out]; simp; exact hW1)), HBB.out⟩
end Go.Proofs.Ytbaiaahdjkjjoaa.Wds
