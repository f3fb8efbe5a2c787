/-
  What the model's decimal text is, over the translated program: the digits that Lib.itoa names.
-/
import Derived.Test.YtancbcjeackmkaaDoorLstW
import Derived.Test.YtancbcjeackmkaaDoorDecMath
import Derived.Laws.BytesArg
import Derived.Laws.AppendOwn
import Derived.Outline
namespace Go.Proofs.YtancbcjeackmkaaDoor.Wds
open Go.RowKit
set_option linter.unusedVariables false
theorem add_blk (x : Addr) (i : Nat) : (x.add i).block = x.block := by unfold Addr.add; split <;> rfl
theorem A_info1 : (Tryd.prog.info? 5).map (fun i => (i.zero, i.size, i.bytes)) = some (some (.int .u8 0), 1, 1) := by kernel_rfl
theorem nums_getD (o : List UInt8) (i : Nat) (hi : i < o.length) : some (Value.int .u8 ((o.getD i 0).toNat : Int)) = some (.int .u8 ((o.map fun x => (x.toNat : Int)).getD i 0)) := by
  rw [List.getD_eq_getElem?_getD, List.getD_eq_getElem?_getD, List.getElem?_map, List.getElem?_eq_getElem hi]; rfl
theorem nums_str (o : List UInt8) : strOfNums (o.map fun x => (x.toNat : Int)) = ⟨o.toArray⟩ := by
  unfold strOfNums
  have e : ((fun n : Int => UInt8.ofNat n.toNat) ∘ fun x : UInt8 => (x.toNat : Int)) = id := by funext x; simp
  rw [List.map_map, e, List.map_id]
theorem own_new (w : World) (B : Nat) (x : Int) (hB : B ≤ w.heap.size) : (w.alloc (.cells #[.int .u8 x] 5)).ownsRow B 5 1 (.slice (some ⟨w.heap.size, 0, none⟩) 1 1) 1 [.int .u8 x] :=
  ⟨rfl, .inr ⟨w.heap.size, 1, #[.int .u8 x], rfl, hB, by show (w.heap.push _)[w.heap.size]? = _; simp, Nat.le_refl _, by unfold maxLen; omega, rfl, rfl⟩⟩
theorem own_shape8 {w : World} {B : Nat} {v : Value} {n : Nat} {ws : List Value} (h : w.ownsRow B 5 1 v n ws) (hn : 0 < n) :
    ∃ g cap, v = .slice (some ⟨g, 0, none⟩) n cap ∧ B ≤ g ∧ n ≤ cap ∧ cap ≤ maxLen ∧ g < w.heap.size ∧ ∀ i, i < n → w.cell? ⟨g, i, none⟩ = ws[i]? := by
  have hl : ws.length = n := by have := h.1; simpa using this
  rcases h.2 with ⟨_, h0⟩ | ⟨g, cap, cur, rfl, hg, hb, hnc, hcm, hcs, ht⟩
  · omega
  · refine ⟨g, cap, rfl, hg, hnc, hcm, lt_of_block hb, fun i hi => ?_⟩
    have hc : w.cell? ⟨g, i, none⟩ = cur[i]? := by simp [World.cell?, hb]
    rw [hc, ← ht, List.getElem?_take_of_lt (by omega), Array.getElem?_toList]
def cells8 (o : List UInt8) : List Value := o.map fun x => .int .u8 (x.toNat : Int)
def lenOf : Value → Nat
  | .slice _ l _ => l
  | _ => 0
/-- Bytes that the call has laid, and where they lie. -/
def Mem (w0 : World) (g cap : Nat) (o : List UInt8) (wr : World) : Prop :=
  o.length ≤ cap ∧ cap ≤ maxLen ∧ w0.heap.size ≤ g ∧ g < wr.heap.size ∧ (∀ i, i < o.length → wr.cell? ⟨g, i, none⟩ = some (.int .u8 ((o.getD i 0).toNat : Int))) ∧ Below w0.heap.size w0 wr
theorem mem_push {w0 wr w2 : World} {g cap : Nat} {o : List UInt8} {x : UInt8} {z : Int} {v : Value} (M : Mem w0 g cap o wr) (hz : z = (x.toNat : Int)) (own : w2.ownsRow w0.heap.size 5 1 v (1 + o.length) (.int .u8 z :: cells8 o))
    (grow : (wr.alloc (.cells #[.int .u8 z] 5)).grownBy w2 (some wr.heap.size)) : ∃ g' cap', v = .slice (some ⟨g', 0, none⟩) (x :: o).length cap' ∧ Mem w0 g' cap' (x :: o) w2 := by
  subst hz
  obtain ⟨m1, m2, m3, m4, m5, m6⟩ := M
  have hB := m6.size
  obtain ⟨g', cap', rfl, c1, c2, c3, c4, c5⟩ := own_shape8 own (by omega)
  refine ⟨g', cap', by rw [List.length_cons, Nat.add_comm], by rw [List.length_cons]; omega, c3, c1, c4, fun i hi => ?_, ?_⟩
  · rw [c5 i (by rw [List.length_cons] at hi; omega)]
    cases i with
    | zero => rfl
    | succ i =>
      rw [List.length_cons] at hi
      have hi' : i < o.length := by omega
      unfold cells8
      rw [List.getElem?_cons_succ, List.getElem?_map, List.getElem?_eq_getElem hi', List.getD_cons_succ, List.getD_eq_getElem?_getD, List.getElem?_eq_getElem hi']
      rfl
  · exact m6.trans ((((Below.refl w0.heap.size wr).alloc hB _)).grown grow (by simp; omega) (fun k hk => by cases hk; exact hB))
theorem mem_new {w0 wr : World} {g cap : Nat} {o : List UInt8} (M : Mem w0 g cap o wr) (x : UInt8) : Mem w0 wr.heap.size 1 [x] (wr.alloc (.cells #[.int .u8 (x.toNat : Int)] 5)) := by
  obtain ⟨m1, m2, m3, m4, m5, m6⟩ := M
  refine ⟨Nat.le_refl _, by unfold maxLen; omega, m6.size, by show wr.heap.size < (wr.heap.push _).size; simp, fun i hi => ?_, m6.alloc m6.size _⟩
  have hi0 : i = 0 := by simp at hi; exact hi
  subst hi0
  exact cell_of_row _ _ 0 _ _ (0, 0) (heap_alloc_new wr _)
theorem mem_src {w0 wr : World} {g cap : Nat} {o : List UInt8} {ob : Obj} (M : Mem w0 g cap o wr) : ∀ (j : Nat) (u : Value), (cells8 o)[j]? = some u → (wr.alloc ob).cell? ((⟨g, 0, none⟩ : Addr).add j) = some u := by
  intro j u hj
  obtain ⟨m1, m2, m3, m4, m5, m6⟩ := M
  unfold cells8 at hj
  rw [List.getElem?_map] at hj
  have hjl : j < o.length := by
    rcases Nat.lt_or_ge j o.length with h | h
    · exact h
    · rw [List.getElem?_eq_none h] at hj; cases hj
  rw [List.getElem?_eq_getElem hjl] at hj
  have hu : Value.int .u8 ((o[j]).toNat : Int) = u := Option.some.inj hj
  have hc := m5 j hjl
  rw [List.getD_eq_getElem?_getD, List.getElem?_eq_getElem hjl] at hc
  rw [World.cell?_alloc_lt _ _ _ (by rw [add_blk]; exact m4), ← hu]
  by_cases h0 : j = 0
  · subst h0; simpa [Addr.add] using hc
  · simpa [Addr.add, h0] using hc
theorem cells8_one (o : List UInt8) : ∀ u : Value, u ∈ cells8 o → u.oneCell' = true := by
  intro u hu; unfold cells8 at hu
  obtain ⟨x, _, rfl⟩ := List.mem_map.1 hu
  rfl
theorem mem_string {w0 wr : World} {g cap : Nat} {o : List UInt8} (M : Mem w0 g cap o wr) : (convert 67 9 (.slice (some ⟨g, 0, none⟩) o.length cap)).run Tryd.prog wr = .ok (.string ⟨o.toArray⟩) wr := by
  have hcv := run_convert_bytes_arg (P := Tryd.prog) (w := wr) 67 5 Tryd.underlying67 Tryd.underlying5 g 0 o.length cap (o.map fun x => (x.toNat : Int)) (by simp) (fun i hi => by rw [Nat.zero_add]; exact (M.2.2.2.2.1 i hi).trans (nums_getD o i hi)) 9 Tryd.underlying9
  rw [nums_str] at hcv
  exact hcv
/-- The bytes that the model's loop has laid, where they lie, and what is left of the number. -/
def Decs (N : Nat) (w0 : World) (ov rv : Value) (wr : World) : Prop :=
  ∃ (r : Int) (o : List UInt8) (g cap : Nat), rv = .int .i64 r ∧ ov = .slice (some ⟨g, 0, none⟩) o.length cap ∧ Hid (Wd.dcF r.natAbs o = Lib.decDigits N) ∧ o.length ≤ 20 ∧ Hid (r.natAbs = N / 10 ^ o.length) ∧ (-9223372036854775808 ≤ r ∧ r ≤ 9223372036854775807) ∧ Hid (Mem w0 g cap o wr)
set_option maxRecDepth 100000 in
theorem dec_any (n : Int) (w : World) (h0 : -9223372036854775808 ≤ n) (h1 : n ≤ 9223372036854775807) :
    Calls Tryd.prog 30 #[.int .i64 n] w fun e w' => e = .returned (.string ⟨(Lib.itoa n).toArray⟩) ∧ Below w.heap.size w w' := by
  obtain ⟨i0, hi, hz0, hz1, hz2⟩ := info_parts A_info1
  have HB0 := Lib.hid (show n.natAbs ≤ 9223372036854775808 by omega)
  go_enter Tryd.func30, Tryd.ntmps30
  go_wp2
  go_loopw [3, 4] (fun ov rv wr => Decs n.natAbs w ov rv wr) (fun ov rv _ => (intOf rv).natAbs + (if lenOf ov = 0 then 1 else 0))
  case atStart =>
    refine ⟨n, [], w.heap.size, 0, rfl, rfl, Lib.hid (Wd.dcF_start _), by decide, Lib.hid (by simp), ⟨h0, h1⟩, Lib.hid ⟨Nat.le_refl _, Nat.zero_le _, Nat.le_refl _, by simp, fun i hi => by simp at hi, (Below.refl _ _).alloc (Nat.le_refl _) _⟩⟩
  case round =>
    obtain ⟨r, o, g, cap, rfl, rfl, hF, hlen, hN, hr, hm⟩ := hrel
    by_cases hend : r = 0 ∧ 0 < o.length
    · obtain ⟨rfl, hpos⟩ := hend
      have hp : ((o.length : Int) == 0) = false := by rw [beq_eq_false_iff_ne]; omega
      have e := hF.out
      rw [Int.natAbs_zero, Wd.dcF_end (by intro h; rw [h] at hpos; exact absurd hpos (by decide))] at e
      have HE := Lib.hid e; clear e
      by_cases hneg : n < 0
      · go_wp2_with (at_builtin; refine wpList_append_own _ rfl _ _ 67 rfl w.heap.size 5 i0 (.int .u8 0) 1 1 Tryd.underlying67 hi hz0 hz1 hz2 rfl (by decide) _ _ _ rfl (own_new wr w.heap.size 45 ?c0) ⟨g, 0, none⟩ o.length cap (cells8 o) rfl (by simp [cells8]) ?c1 ?c2 ?c3 ?c4 ?c5 ?_)
        case c0 => exact hm.out.2.2.2.2.2.size
        case c1 => exact mem_src hm.out
        case c2 => exact cells8_one o
        case c3 => unfold maxLen; omega
        case c4 => omega
        case c5 => have := hm.out.2.2.2.2.2.size; simp; omega
        intro v' w2 hown hgrow _
        obtain ⟨g', cap', rfl, M2⟩ := mem_push (x := 45) hm.out rfl hown hgrow
        have hcv := mem_string M2
        rw [List.length_cons] at hcv
        have HM := Lib.hid M2; clear hown hgrow
        go_wp2
        go_ret
        refine ⟨?_, HM.out.2.2.2.2.2⟩
        rw [HE.out]
        unfold Lib.itoa
        rw [if_pos hneg]
        rfl
      · have hcv := mem_string hm.out
        go_wp2
        go_ret
        refine ⟨?_, hm.out.2.2.2.2.2⟩
        rw [HE.out]
        unfold Lib.itoa
        rw [if_neg (by omega), show n.toNat = n.natAbs by omega]
        rfl
    · have hne : ¬ (r.natAbs = 0 ∧ o ≠ []) := by
        intro hh
        apply hend
        refine ⟨by omega, ?_⟩
        cases o with
        | nil => exact absurd rfl hh.2
        | cons x l => simp
      have hstep := Wd.dcF_step hne
      rw [hF.out] at hstep
      have HST := Lib.hid hstep
      have hsz := hm.out.2.2.2.2.2.size
      have hlen2 : o.length + 1 ≤ 20 := by
        rcases Nat.eq_zero_or_pos o.length with hl0 | hl0
        · omega
        · have hr0 : r.natAbs ≠ 0 := fun h => hend ⟨by omega, hl0⟩
          have hNN := hN.out
          have hge : 10 ^ o.length ≤ n.natAbs := by
            rcases Nat.lt_or_ge n.natAbs (10 ^ o.length) with h | h
            · rw [Nat.div_eq_of_lt h] at hNN; exact absurd hNN hr0
            · exact h
          rcases Nat.lt_or_ge o.length 19 with h | h
          · omega
          · have h19 : 10 ^ 19 ≤ 10 ^ o.length := Nat.pow_le_pow_right (by decide) h
            have : (10 : Nat) ^ 19 = 10000000000000000000 := by decide
            have hb := HB0.out
            omega
      obtain ⟨d, hd⟩ : ∃ d : Nat, d = r.natAbs % 10 := ⟨_, rfl⟩
      have hd9 : d ≤ 9 := by omega
      have hx : ((48 + d : Nat) : Int) = ((UInt8.ofNat (48 + r.natAbs % 10)).toNat : Int) := by
        rw [← hd]; simp; omega
      have HX := Lib.hid hx
      have HE := Lib.hid hend
      have hq : (r.tdiv 10).natAbs = r.natAbs / 10 := Wd.dc_rest r
      have d0 : (0 : Int) ≤ (d : Int) := by omega
      have d9 : (d : Int) ≤ 9 := by omega
      by_cases ho : o = []
      · subst ho
        by_cases h0r : 0 ≤ r
        · have e1 : r % 10 = (d : Int) := by omega
          have q1 : r / 10 ≤ 922337203685477580 := by omega
          have q0 : 0 ≤ r / 10 := by omega
          have HQ := Lib.hid (show (r / 10).natAbs = r.natAbs / 10 by omega)
          clear hd hx hq hstep hne hend
          go_wp2
          have M2 : Mem w wr.heap.size 1 [UInt8.ofNat (48 + r.natAbs % 10)] (wr.alloc (.cells #[.int .u8 (48 + (d : Int))] 5)) := by
            have h1 := mem_new hm.out (UInt8.ofNat (48 + r.natAbs % 10))
            rw [← HX.out] at h1; push_cast at h1; exact h1
          go_roundw
          case rel =>
            refine ⟨r / 10, _, wr.heap.size, 1, rfl, rfl, Lib.hid (by rw [HQ.out]; exact HST.out), by rw [List.length_cons]; exact hlen2, Lib.hid (by rw [HQ.out, hN.out, List.length_cons, Nat.div_div_eq_div_mul, ← Nat.pow_succ]), ⟨by omega, by omega⟩, Lib.hid M2⟩
          case measure =>
            have h1 := HQ.out
            have h2 := HE.out
            simp [intOf, lenOf]
            first | omega | (split <;> omega)
        · obtain ⟨x, hxx⟩ : ∃ x : Int, x = r.tmod 10 := ⟨_, rfl⟩
          obtain ⟨q, hqq⟩ : ∃ q : Int, q = r.tdiv 10 := ⟨_, rfl⟩
          have hdg := Wd.dc_digit r
          rw [← hxx, ← hd] at hdg
          have hx0 : x ≤ 0 := by rw [hxx]; have := Int.tmod_nonneg (a := -r) 10 (by omega); rw [Int.neg_tmod] at this; omega
          have e1 : r.tmod 10 = x := hxx.symm
          have e2 : r.tdiv 10 = q := hqq.symm
          rw [← hqq] at hq
          have q0 : q ≤ 0 := by rw [hqq]; have := Int.tdiv_nonneg (a := -r) (b := 10) (by omega) (by omega); rw [Int.neg_tdiv] at this; omega
          have q1 : -922337203685477580 ≤ q := by omega
          have HQ := Lib.hid hq
          by_cases hxn : x < 0
          · have e3 : -x = (d : Int) := by rw [if_pos hxn] at hdg; exact hdg
            have x9 : -9 ≤ x := by omega
            clear hd hx hq hqq hstep hne hend hdg hxx
            go_wp2
            have M2 : Mem w wr.heap.size 1 [UInt8.ofNat (48 + r.natAbs % 10)] (wr.alloc (.cells #[.int .u8 (48 + (d : Int))] 5)) := by
              have h1 := mem_new hm.out (UInt8.ofNat (48 + r.natAbs % 10))
              rw [← HX.out] at h1; push_cast at h1; exact h1
            go_roundw
            case rel =>
              refine ⟨q, _, wr.heap.size, 1, rfl, rfl, Lib.hid (by rw [HQ.out]; exact HST.out), by rw [List.length_cons]; exact hlen2, Lib.hid (by rw [HQ.out, hN.out, List.length_cons, Nat.div_div_eq_div_mul, ← Nat.pow_succ]), ⟨by omega, by omega⟩, Lib.hid M2⟩
            case measure =>
              have h1 := HQ.out
              have h2 := HE.out
              simp [intOf, lenOf]
              first | omega | (split <;> omega)
          · have hx00 : x = 0 := by omega
            have hd0 : d = 0 := by rw [if_neg hxn] at hdg; omega
            subst hx00
            clear hx hq hqq hstep hne hend hdg hxx hd hxn
            subst hd0
            go_wp2
            have M2 : Mem w wr.heap.size 1 [UInt8.ofNat (48 + r.natAbs % 10)] (wr.alloc (.cells #[.int .u8 48] 5)) := by
              have h1 := mem_new hm.out (UInt8.ofNat (48 + r.natAbs % 10))
              rw [← HX.out] at h1; simpa using h1
            go_roundw
            case rel =>
              refine ⟨q, _, wr.heap.size, 1, rfl, rfl, Lib.hid (by rw [HQ.out]; exact HST.out), by rw [List.length_cons]; exact hlen2, Lib.hid (by rw [HQ.out, hN.out, List.length_cons, Nat.div_div_eq_div_mul, ← Nat.pow_succ]), ⟨by omega, by omega⟩, Lib.hid M2⟩
            case measure =>
              have h1 := HQ.out
              have h2 := HE.out
              simp [intOf, lenOf]
              first | omega | (split <;> omega)
      · have hol : 0 < o.length := by
          cases o with
          | nil => exact absurd rfl ho
          | cons x l => simp
        have hp : ((o.length : Int) == 0) = false := by rw [beq_eq_false_iff_ne]; omega
        have hr0 : (r != 0) = true := by rw [bne_iff_ne]; intro h; exact hend ⟨h, hol⟩
        have l0 : (0 : Int) ≤ (o.length : Int) := by omega
        by_cases h0r : 0 ≤ r
        · have e1 : r % 10 = (d : Int) := by omega
          have q1 : r / 10 ≤ 922337203685477580 := by omega
          have q0 : 0 ≤ r / 10 := by omega
          have HQ := Lib.hid (show (r / 10).natAbs = r.natAbs / 10 by omega)
          clear hd hx hq hstep hne hend
          go_wp2_with (at_builtin; refine wpList_append_own _ rfl _ _ 67 rfl w.heap.size 5 i0 (.int .u8 0) 1 1 Tryd.underlying67 hi hz0 hz1 hz2 rfl (by decide) _ _ _ rfl (own_new wr w.heap.size _ hsz) ⟨g, 0, none⟩ o.length cap (cells8 o) rfl (by simp [cells8]) (mem_src hm.out) (cells8_one o) (by unfold maxLen; omega) (by omega) (by simp; omega) ?_; intro v' w2 hown hgrow _; have HO := Lib.hid (And.intro hown hgrow); clear hown hgrow)
          obtain ⟨g', cap', rfl, M2⟩ := mem_push (x := UInt8.ofNat (48 + r.natAbs % 10)) hm.out (by rw [← HX.out]; first | rfl | (push_cast; rfl) | simp) HO.out.1 HO.out.2
          have HM := Lib.hid M2; clear HO
          go_wp2
          go_roundw
          case rel =>
            refine ⟨r / 10, _, g', cap', rfl, rfl, Lib.hid (by rw [HQ.out]; exact HST.out), by rw [List.length_cons]; exact hlen2, Lib.hid (by rw [HQ.out, hN.out, List.length_cons, Nat.div_div_eq_div_mul, ← Nat.pow_succ]), ⟨by omega, by omega⟩, Lib.hid M2⟩
          case measure =>
            have h1 := HQ.out
            have h2 := HE.out
            simp [intOf, lenOf]
            first | omega | (split <;> omega)
        · obtain ⟨x, hxx⟩ : ∃ x : Int, x = r.tmod 10 := ⟨_, rfl⟩
          obtain ⟨q, hqq⟩ : ∃ q : Int, q = r.tdiv 10 := ⟨_, rfl⟩
          have hdg := Wd.dc_digit r
          rw [← hxx, ← hd] at hdg
          have hx0 : x ≤ 0 := by rw [hxx]; have := Int.tmod_nonneg (a := -r) 10 (by omega); rw [Int.neg_tmod] at this; omega
          have e1 : r.tmod 10 = x := hxx.symm
          have e2 : r.tdiv 10 = q := hqq.symm
          rw [← hqq] at hq
          have q0 : q ≤ 0 := by rw [hqq]; have := Int.tdiv_nonneg (a := -r) (b := 10) (by omega) (by omega); rw [Int.neg_tdiv] at this; omega
          have q1 : -922337203685477580 ≤ q := by omega
          have HQ := Lib.hid hq
          by_cases hxn : x < 0
          · have e3 : -x = (d : Int) := by rw [if_pos hxn] at hdg; exact hdg
            have x9 : -9 ≤ x := by omega
            clear hd hx hq hqq hstep hne hend hdg hxx
            go_wp2_with (at_builtin; refine wpList_append_own _ rfl _ _ 67 rfl w.heap.size 5 i0 (.int .u8 0) 1 1 Tryd.underlying67 hi hz0 hz1 hz2 rfl (by decide) _ _ _ rfl (own_new wr w.heap.size _ hsz) ⟨g, 0, none⟩ o.length cap (cells8 o) rfl (by simp [cells8]) (mem_src hm.out) (cells8_one o) (by unfold maxLen; omega) (by omega) (by simp; omega) ?_; intro v' w2 hown hgrow _; have HO := Lib.hid (And.intro hown hgrow); clear hown hgrow)
            obtain ⟨g', cap', rfl, M2⟩ := mem_push (x := UInt8.ofNat (48 + r.natAbs % 10)) hm.out (by rw [← HX.out]; first | rfl | (push_cast; rfl) | simp) HO.out.1 HO.out.2
            have HM := Lib.hid M2; clear HO
            go_wp2
            go_roundw
            case rel =>
              refine ⟨q, _, g', cap', rfl, rfl, Lib.hid (by rw [HQ.out]; exact HST.out), by rw [List.length_cons]; exact hlen2, Lib.hid (by rw [HQ.out, hN.out, List.length_cons, Nat.div_div_eq_div_mul, ← Nat.pow_succ]), ⟨by omega, by omega⟩, Lib.hid M2⟩
            case measure =>
              have h1 := HQ.out
              have h2 := HE.out
              simp [intOf, lenOf]
              first | omega | (split <;> omega)
          · have hx00 : x = 0 := by omega
            have hd0 : d = 0 := by rw [if_neg hxn] at hdg; omega
            subst hx00
            clear hx hq hqq hstep hne hend hdg hxx hd hxn
            subst hd0
            go_wp2_with (at_builtin; refine wpList_append_own _ rfl _ _ 67 rfl w.heap.size 5 i0 (.int .u8 0) 1 1 Tryd.underlying67 hi hz0 hz1 hz2 rfl (by decide) _ _ _ rfl (own_new wr w.heap.size _ hsz) ⟨g, 0, none⟩ o.length cap (cells8 o) rfl (by simp [cells8]) (mem_src hm.out) (cells8_one o) (by unfold maxLen; omega) (by omega) (by simp; omega) ?_; intro v' w2 hown hgrow _; have HO := Lib.hid (And.intro hown hgrow); clear hown hgrow)
            obtain ⟨g', cap', rfl, M2⟩ := mem_push (x := UInt8.ofNat (48 + r.natAbs % 10)) hm.out (by rw [← HX.out]; first | rfl | (push_cast; rfl) | simp) HO.out.1 HO.out.2
            have HM := Lib.hid M2; clear HO
            go_wp2
            go_roundw
            case rel =>
              refine ⟨q, _, g', cap', rfl, rfl, Lib.hid (by rw [HQ.out]; exact HST.out), by rw [List.length_cons]; exact hlen2, Lib.hid (by rw [HQ.out, hN.out, List.length_cons, Nat.div_div_eq_div_mul, ← Nat.pow_succ]), ⟨by omega, by omega⟩, Lib.hid M2⟩
            case measure =>
              have h1 := HQ.out
              have h2 := HE.out
              simp [intOf, lenOf]
              first | omega | (split <;> omega)
end Go.Proofs.YtancbcjeackmkaaDoor.Wds
