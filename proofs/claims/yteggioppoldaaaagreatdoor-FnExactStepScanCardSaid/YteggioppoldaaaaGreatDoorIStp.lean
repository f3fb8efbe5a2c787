/-
  The scan by steps: the code's function; one contract.
-/
import Derived.Test.YteggioppoldaaaaGreatDoorSStp
namespace Go.Proofs.YteggioppoldaaaaGreatDoor.Wds
open Go.RowKit Go.Proofs.YteggioppoldaaaaGreatDoor.Err
set_option linter.unusedVariables false

theorem own_splice {w : World} {lo hi g o n far m : Nat} {zs ys : List Int} (h : Own w lo hi (some ⟨g, o, none⟩) n zs) (hm : far + m = n) (hn : 0 < n) (hy : ys.length = m) :
    ∃ cur : List Value, w.heap[g]? = some (.cells cur.toArray 2 (0, 0)) ∧ o + n ≤ cur.length ∧ lo ≤ g ∧ g < hi ∧
      ∀ w' : World, w'.heap[g]? = some (.cells (splice cur (o + far) (ys.map (Value.int .i64))).toArray 2 (0, 0)) → Own w' lo hi (some ⟨g, o, none⟩) n (zs.take far ++ ys) := by
  have hl := h.1
  obtain ⟨g', o', cs, e, h1, h2, hg, hc⟩ := h.2 hn
  injection e with e
  injection e with e1 e2
  subst e1; subst e2
  have hsz : o + n ≤ cs.size := by
    have hlt : n - 1 < zs.length := by omega
    have := (Array.getElem?_eq_some_iff.1 (hc (n - 1) _ (List.getElem?_eq_getElem hlt))).1
    omega
  refine ⟨cs.toList, by simpa [Blk] using hg, by simpa using hsz, h1, h2, fun w' hw' => ⟨by simp; omega, fun _ => ⟨g, o, _, rfl, h1, h2, hw', fun j z hz => ?_⟩⟩⟩
  rw [List.getElem?_toArray]
  unfold splice
  by_cases hj : j < far
  · rw [List.getElem?_append_left (by simp; omega), List.getElem?_take_of_lt (by omega), Array.getElem?_toList]
    rw [List.getElem?_append_left (by simp; omega), List.getElem?_take_of_lt hj] at hz
    exact hc j z hz
  · have hjl : j < (zs.take far ++ ys).length := (List.getElem?_eq_some_iff.1 hz).1
    simp at hjl
    have hq : (cs.toList.take (o + far)).length = o + far := by simp; omega
    rw [List.getElem?_append_right (by rw [hq]; omega), hq, List.getElem?_append_left (by simp; omega), List.getElem?_map]
    rw [List.getElem?_append_right (by simp; omega)] at hz
    have hq2 : (zs.take far).length = far := by simp; omega
    rw [hq2] at hz
    rw [show o + j - (o + far) = j - far by omega, hz]
    rfl
theorem st_split (op b : Int) {zs : List Int} {far m n : Nat} (hl : zs.length = n) (hm : far + m = n) :
    Ln.tab (Ln.ssF op b zs far) n = zs.take far ++ Ln.tab (fun i => Wd.doOp op b (((zs.drop 0).take m).getD i 0) (((zs.drop far).take m).getD i 0)) m := by
  rw [← List.take_append_drop far (Ln.tab (Ln.ssF op b zs far) n), Ln.tab_take _ _ _ (by omega), Ln.tab_drop]
  have e1 : Ln.tab (Ln.ssF op b zs far) far = zs.take far := by
    have h2 := Ln.tab_self (zs.take far)
    have hq2 : (zs.take far).length = far := by simp; omega
    rw [hq2] at h2
    rw [← h2]
    refine Ln.tab_congr fun i hi => ?_
    unfold Ln.ssF
    rw [if_neg (by omega), List.getD_eq_getElem?_getD, List.getD_eq_getElem?_getD, List.getElem?_take_of_lt hi]
  have e2 : n - far = m := by omega
  rw [e1, e2]
  congr 1
  refine Ln.tab_congr fun i hi => ?_
  unfold Ln.ssF
  rw [if_pos (by omega), show far + i - far = i by omega, List.drop_zero, List.getD_eq_getElem?_getD (l := zs.take m), List.getElem?_take_of_lt hi, ← List.getD_eq_getElem?_getD, List.getD_eq_getElem?_getD (l := (zs.drop far).take m), List.getElem?_take_of_lt hi, List.getElem?_drop, ← List.getD_eq_getElem?_getD]
theorem cut_words2 {b : Int} {zs : List Int} {far m n : Nat} (hm : far + m = n) (hw : ∀ k, k < n → Wd.IsWord b (zs.getD k 0)) : (∀ k, k < m → Wd.IsWord b (((zs.drop 0).take m).getD k 0)) ∧ (∀ k, k < m → Wd.IsWord b (((zs.drop far).take m).getD k 0)) := by
  refine ⟨fun k hk => ?_, fun k hk => ?_⟩
  · rw [List.drop_zero, List.getD_eq_getElem?_getD, List.getElem?_take_of_lt hk, ← List.getD_eq_getElem?_getD]
    exact hw k (by omega)
  · rw [List.getD_eq_getElem?_getD, List.getElem?_take_of_lt hk, List.getElem?_drop, ← List.getD_eq_getElem?_getD]
    exact hw (far + k) (by omega)
set_option maxRecDepth 100000 in
set_option maxHeartbeats 1600000 in
theorem iStep8 (op b : Int) (ad : Addr) (n c : Nat) (xs : List Int) (B : Nat) (w : World) (hn : n = 2 ∨ n = 4 ∨ n = 8 ∨ n = 16) (r : Rd w B (some ad) n xs) (hb : (b = 4 ∨ b = 8)) (hop : Ln.isOp op = true) (hv : Ln.vec b xs = true) (hg : ErrT w) :
    Calls Tryz.prog 16 #[.int .i64 op, .int .i64 b, .slice (some ad) n c] w (Ret1 (Ln.st op b xs (Ln.lg n)) true w) := by
  obtain ⟨i0, hi, hz0, hz1, hz2⟩ := info_parts A_info64
  have hsz : (Tryz.prog.info? 2).map (·.size) = some 1 := by rw [hi]; simp [hz1]
  have k0 := iopIs_any op w
  have k1 : ∀ w1, Below w.heap.size w w1 → Calls Tryz.prog 19 #[.int .i64 b, .slice (some ad) n c] w1 (RetB (Ln.vec b xs) w1) := fun w1 hbw => isVec_any b (some ad) n c xs B w1 (by omega) (r.below hbw)
  rw [hop] at k0
  rw [hv] at k1
  have k2 := fun W => resultOf8_any op b W hb
  have h00 := isOp_bd hop
  have hlx := r.len
  have CI := Lib.hid (fun (j far m : Nat) (A1 A2 : Option Addr) (c1 c2 B1 B2 : Nat) (hm : far + m = n) (W : World) (hbW : Below w.heap.size w W) (e1 : Rd W B1 A1 m (((Ln.st op b xs j).drop 0).take m)) (e2 : Rd W B2 A2 m (((Ln.st op b xs j).drop far).take m)) =>
    inPairs8_any op b A1 A2 m c1 c2 _ _ B1 B2 W h00.1 h00.2 hb (by omega) e1 e2 (cut_words2 (b := b) hm (fun k hk => Ln.st_word h00.1 h00.2 hv j k (by omega))).1 (cut_words2 (b := b) hm (fun k hk => Ln.st_word h00.1 h00.2 hv j k (by omega))).2 (hg.below hbW hg.lt))
  have C0 := Lib.hid k0
  have C1 := Lib.hid k1
  have C2 := Lib.hid k2
  have R := Lib.hid r
  have HN := Lib.hid hn
  have HLX := Lib.hid hlx
  have HSZ := Lib.hid hsz
  have hn0 : 0 < n := by omega
  have hn16 : n ≤ 16 := by omega
  clear k0 k1 k2 r hop hv hn hlx h00 hg hb hsz
  go_enter Tryz.func16, Tryz.ntmps16
  go_wp2_with fail
  refine C0.out.mono ?_
  rintro e w1 ⟨rfl, hb⟩
  have HB1 := Lib.hid hb; clear hb
  go_wp2_with fail
  refine (C1.out _ HB1.out).mono ?_
  rintro e w2 ⟨rfl, hb⟩
  have HB2 := Lib.hid (HB1.out.trans (hb.mono HB1.out.size)); clear hb
  go_wp2_with fail
  refine (C2.out _).mono ?_
  rintro e w3 ⟨rfl, hb⟩
  have HB3 := Lib.hid (HB2.out.trans (hb.mono HB2.out.size)); clear hb
  go_wp2_with fail
  refine (clone_any _ n _ xs B _ (by omega) (R.out.below HB3.out)).mono ?_
  rintro e w4 ⟨A4, n4, c4, rfl, ho, _, hc4, hb⟩
  obtain rfl : n = n4 := HLX.out.symm.trans ho.len
  obtain ⟨g4, o4, rfl, _, _⟩ := ho.rd.at_ hn0
  have HO4 := Lib.hid (ho.more HB3.out.size (Nat.le_refl _))
  have HB4 := Lib.hid (HB3.out.trans (hb.mono HB3.out.size)); clear ho hb
  go_wp2_with fail
  go_loopw [10] (fun i wr => ∃ j : Nat, i = .int .i64 ((2 ^ j : Nat) : Int) ∧ j ≤ Ln.lg n ∧ Own wr w.heap.size w4.heap.size (some ⟨g4, o4, none⟩) n (Ln.st op b xs j) ∧ w4.heap.size ≤ wr.heap.size ∧ Below w.heap.size w wr) (fun i _ => n - (intOf i).toNat)
  case atStart => exact ⟨0, rfl, Nat.zero_le _, HO4.out, Nat.le_refl _, HB4.out⟩
  case round =>
    obtain ⟨j, rfl, hj, hown, hsz, hb⟩ := hrel
    obtain ⟨hp1, hp2⟩ := Ln.pow_lt_lg HN.out hj
    have hpp : 0 < 2 ^ j := Nat.pow_pos (by decide)
    have hps : 2 ^ (j + 1) = 2 ^ j + 2 ^ j := by rw [Nat.pow_succ]; omega
    by_cases hlt : 2 ^ j < n
    · have HJ1 := Lib.hid (hp1.1 hlt)
      obtain ⟨m, hm⟩ : ∃ m, m = n - 2 ^ j := ⟨_, rfl⟩
      have hfm : 2 ^ j + m = n := by omega
      have CJ := Lib.hid (fun A1 A2 c1 c2 B1 B2 => CI.out j (2 ^ j) m A1 A2 c1 c2 B1 B2 hfm)
      have hst : Ln.st op b xs (j + 1) = Ln.tab (Ln.ssF op b (Ln.st op b xs j) (2 ^ j)) n := by rw [← HLX.out]; rfl
      rw [st_split op b (zs := Ln.st op b xs j) (far := 2 ^ j) (m := m) (n := n) (by rw [Ln.st_len]; exact HLX.out) hfm] at hst
      have HST := Lib.hid hst; clear hst
      have ra := hown.rd.cut 0 m (by omega)
      have rb := hown.rd.cut (2 ^ j) m (by omega)
      rw [Nat.add_zero] at ra
      generalize Ln.st op b xs j = zs at CJ HST ra rb hown
      obtain ⟨far, hfar⟩ : ∃ far, far = 2 ^ j := ⟨_, rfl⟩
      rw [← hfar] at hlt hpp CJ HST rb hfm hps
      rw [← hfar]
      have hm' : n - far = m := by omega
      obtain ⟨ys, hys⟩ : ∃ ys, ys = Ln.tab (fun i => Wd.doOp op b (((zs.drop 0).take m).getD i 0) (((zs.drop far).take m).getD i 0)) m := ⟨_, rfl⟩
      have hmp : 0 < m := by omega
      have hyl : ys.length = m := by rw [hys, Ln.tab_len]
      rw [← hys] at HST CJ
      have HA := Lib.hid ra
      have HBb := Lib.hid rb
      have HOW := Lib.hid hown
      have HYL := Lib.hid hyl
      have HPS := Lib.hid hps
      have HB := Lib.hid hb
      have HS := Lib.hid hsz
      have HFM := Lib.hid hfm
      have q1 : (far : Int) < (n : Int) := by omega
      have q2 : (n : Int) - (far : Int) = (m : Int) := by omega
      have q3 : (m : Int) ≤ (c4 : Int) := by omega
      have q4 : (far : Int) ≤ (n : Int) := by omega
      have q5 : (n : Int) ≤ (c4 : Int) := by omega
      have q6 : far < c4 := by omega
      have q10 : ¬ c4 = far := by omega
      have q7 : (0 : Int) ≤ (far : Int) := by omega
      have q8 : (0 : Int) ≤ (m : Int) := by omega
      have q9 : (m : Int) ≤ (n : Int) := by omega
      have s1 : IntKind.i64.wrap (m : Int) = (m : Int) := IntWalk.i64_in _ (by omega)
      have s2 : IntKind.i64.wrap ((far : Int) * 2) = ((far + far : Nat) : Int) := by rw [IntKind.wrap_i64]; omega
      clear ra rb hown hyl hps hp1 hp2 hb hsz hj hfar hys hfm hm
      go_wp2
      go_region_held3 (fun _ => True) (first | go_keep | exact trivial)
        (first
          | (go_at_call 39; (with_reducible refine (CJ.out _ _ _ _ w4.heap.size w4.heap.size _ ?_ ?_ ?_).mono ?_); (exact HB.out.drew); (exact HA.out); (exact HBb.out); rintro e w5 ⟨A5, n5, c5, rfl, ho5, hn5, hc5, hb5⟩; have hn5 : m = n5 := by { have h := ho5.len; rw [HYL.out] at h; exact h }; subst hn5; obtain ⟨g5, o5, rfl, _, _⟩ := ho5.rd.at_ hmp; have HO5 := Lib.hid ho5.rd; have HB5 := Lib.hid (HB.out.drew.trans (hb5.mono HB.out.size)); have HOW5 := Lib.hid (show Own w5 w.heap.size w4.heap.size (some ⟨g4, o4, none⟩) n zs from Own.below (w := wr.drew) HOW.out hb5); have HS5 := Lib.hid (Nat.le_trans HS.out hb5.size); obtain ⟨cur, hcur, hcl, hlo, hhi, hnew⟩ := own_splice HOW5.out HFM.out hn0 HYL.out; have HCU := Lib.hid (And.intro hcur (And.intro hcl (And.intro hlo hhi))); have HNEW := Lib.hid hnew; clear ho5 hb5 hc5 hcur hcl hlo hhi hnew)
          | (refine step_copy_splice rfl (.tmp 33) (.tmp 44) 25 25 rfl 2 Tryz.underlying25 HSZ.out (some ⟨g4, o4 + far, none⟩) (some ⟨g5, o5, none⟩) _ _ m c5 (by rfl) (by rfl) g4 (o4 + far) cur 2 HCU.out.1 (ys.map (Value.int .i64)) (by rw [List.length_map, HYL.out]; simp) (fun _ => ⟨rfl, _, rfl, HO5.out.src _ rfl⟩) (by rw [List.length_map, HYL.out]; have h1 := HCU.out.2.1; have h2 := HFM.out; omega) int_one w.heap.size _ (Below.refl _ _) HCU.out.2.2.1 ?_; intro w6 hg6 hb6; have HG6 := Lib.hid hg6; have HB6 := Lib.hid (HB5.out.trans hb6); have HS6 := Lib.hid (Nat.le_trans HS5.out hb6.size); clear hg6 hb6))
      all_goals (try go_simp)
      all_goals (try go_wp2)
      all_goals
        go_roundw
        case rel =>
          refine ⟨j + 1, ?_, HJ1.out, ?_, HS6.out, HB6.out⟩
          · rw [HPS.out]
            first | rfl | (rw [s2]) | (simp [s2])
          · rw [HST.out]; exact HNEW.out _ HG6.out
        case measure => simp [intOf]; omega
    · have hje : j = Ln.lg n := by
        rcases Nat.lt_or_ge j (Ln.lg n) with h | h
        · exact absurd (hp1.2 h) hlt
        · omega
      subst hje
      have HF := Lib.hid (And.intro hown (And.intro hsz hb))
      have i1 : ¬ (((2 ^ Ln.lg n : Nat) : Int) < (n : Int)) := by omega
      obtain ⟨far, hfar⟩ : ∃ far, far = 2 ^ Ln.lg n := ⟨_, rfl⟩
      rw [← hfar] at i1
      rw [← hfar]
      clear hown hb hp1 hp2 hps hpp hlt hj hfar hsz
      go_wp2
      go_ret2
      obtain ⟨hown, hsz, hb⟩ := HF.out
      exact ⟨_, n, c4, rfl, hown.more (Nat.le_refl _) hsz, by omega, hb⟩
set_option maxRecDepth 100000 in
set_option maxHeartbeats 1600000 in
theorem iStep16 (op b : Int) (ad : Addr) (n c : Nat) (xs : List Int) (B : Nat) (w : World) (hn : n = 2 ∨ n = 4 ∨ n = 8 ∨ n = 16) (r : Rd w B (some ad) n xs) (hb : (16 ≤ b ∧ b ≤ 16)) (hop : Ln.isOp op = true) (hv : Ln.vec b xs = true) (hg : ErrT w) :
    Calls Tryz.prog 16 #[.int .i64 op, .int .i64 b, .slice (some ad) n c] w (Ret1 (Ln.st op b xs (Ln.lg n)) true w) := by
  obtain ⟨i0, hi, hz0, hz1, hz2⟩ := info_parts A_info64
  have hsz : (Tryz.prog.info? 2).map (·.size) = some 1 := by rw [hi]; simp [hz1]
  have k0 := iopIs_any op w
  have k1 : ∀ w1, Below w.heap.size w w1 → Calls Tryz.prog 19 #[.int .i64 b, .slice (some ad) n c] w1 (RetB (Ln.vec b xs) w1) := fun w1 hbw => isVec_any b (some ad) n c xs B w1 (by omega) (r.below hbw)
  rw [hop] at k0
  rw [hv] at k1
  have k2 := fun W => resultOf16_any op b W hb
  have h00 := isOp_bd hop
  have hlx := r.len
  have CI := Lib.hid (fun (j far m : Nat) (A1 A2 : Option Addr) (c1 c2 B1 B2 : Nat) (hm : far + m = n) (W : World) (hbW : Below w.heap.size w W) (e1 : Rd W B1 A1 m (((Ln.st op b xs j).drop 0).take m)) (e2 : Rd W B2 A2 m (((Ln.st op b xs j).drop far).take m)) =>
    inPairs16_any op b A1 A2 m c1 c2 _ _ B1 B2 W h00.1 h00.2 hb (by omega) e1 e2 (cut_words2 (b := b) hm (fun k hk => Ln.st_word h00.1 h00.2 hv j k (by omega))).1 (cut_words2 (b := b) hm (fun k hk => Ln.st_word h00.1 h00.2 hv j k (by omega))).2 (hg.below hbW hg.lt))
  have C0 := Lib.hid k0
  have C1 := Lib.hid k1
  have C2 := Lib.hid k2
  have R := Lib.hid r
  have HN := Lib.hid hn
  have HLX := Lib.hid hlx
  have HSZ := Lib.hid hsz
  have hn0 : 0 < n := by omega
  have hn16 : n ≤ 16 := by omega
  clear k0 k1 k2 r hop hv hn hlx h00 hg hb hsz
  go_enter Tryz.func16, Tryz.ntmps16
  go_wp2_with fail
  refine C0.out.mono ?_
  rintro e w1 ⟨rfl, hb⟩
  have HB1 := Lib.hid hb; clear hb
  go_wp2_with fail
  refine (C1.out _ HB1.out).mono ?_
  rintro e w2 ⟨rfl, hb⟩
  have HB2 := Lib.hid (HB1.out.trans (hb.mono HB1.out.size)); clear hb
  go_wp2_with fail
  refine (C2.out _).mono ?_
  rintro e w3 ⟨rfl, hb⟩
  have HB3 := Lib.hid (HB2.out.trans (hb.mono HB2.out.size)); clear hb
  go_wp2_with fail
  refine (clone_any _ n _ xs B _ (by omega) (R.out.below HB3.out)).mono ?_
  rintro e w4 ⟨A4, n4, c4, rfl, ho, _, hc4, hb⟩
  obtain rfl : n = n4 := HLX.out.symm.trans ho.len
  obtain ⟨g4, o4, rfl, _, _⟩ := ho.rd.at_ hn0
  have HO4 := Lib.hid (ho.more HB3.out.size (Nat.le_refl _))
  have HB4 := Lib.hid (HB3.out.trans (hb.mono HB3.out.size)); clear ho hb
  go_wp2_with fail
  go_loopw [10] (fun i wr => ∃ j : Nat, i = .int .i64 ((2 ^ j : Nat) : Int) ∧ j ≤ Ln.lg n ∧ Own wr w.heap.size w4.heap.size (some ⟨g4, o4, none⟩) n (Ln.st op b xs j) ∧ w4.heap.size ≤ wr.heap.size ∧ Below w.heap.size w wr) (fun i _ => n - (intOf i).toNat)
  case atStart => exact ⟨0, rfl, Nat.zero_le _, HO4.out, Nat.le_refl _, HB4.out⟩
  case round =>
    obtain ⟨j, rfl, hj, hown, hsz, hb⟩ := hrel
    obtain ⟨hp1, hp2⟩ := Ln.pow_lt_lg HN.out hj
    have hpp : 0 < 2 ^ j := Nat.pow_pos (by decide)
    have hps : 2 ^ (j + 1) = 2 ^ j + 2 ^ j := by rw [Nat.pow_succ]; omega
    by_cases hlt : 2 ^ j < n
    · have HJ1 := Lib.hid (hp1.1 hlt)
      obtain ⟨m, hm⟩ : ∃ m, m = n - 2 ^ j := ⟨_, rfl⟩
      have hfm : 2 ^ j + m = n := by omega
      have CJ := Lib.hid (fun A1 A2 c1 c2 B1 B2 => CI.out j (2 ^ j) m A1 A2 c1 c2 B1 B2 hfm)
      have hst : Ln.st op b xs (j + 1) = Ln.tab (Ln.ssF op b (Ln.st op b xs j) (2 ^ j)) n := by rw [← HLX.out]; rfl
      rw [st_split op b (zs := Ln.st op b xs j) (far := 2 ^ j) (m := m) (n := n) (by rw [Ln.st_len]; exact HLX.out) hfm] at hst
      have HST := Lib.hid hst; clear hst
      have ra := hown.rd.cut 0 m (by omega)
      have rb := hown.rd.cut (2 ^ j) m (by omega)
      rw [Nat.add_zero] at ra
      generalize Ln.st op b xs j = zs at CJ HST ra rb hown
      obtain ⟨far, hfar⟩ : ∃ far, far = 2 ^ j := ⟨_, rfl⟩
      rw [← hfar] at hlt hpp CJ HST rb hfm hps
      rw [← hfar]
      have hm' : n - far = m := by omega
      obtain ⟨ys, hys⟩ : ∃ ys, ys = Ln.tab (fun i => Wd.doOp op b (((zs.drop 0).take m).getD i 0) (((zs.drop far).take m).getD i 0)) m := ⟨_, rfl⟩
      have hmp : 0 < m := by omega
      have hyl : ys.length = m := by rw [hys, Ln.tab_len]
      rw [← hys] at HST CJ
      have HA := Lib.hid ra
      have HBb := Lib.hid rb
      have HOW := Lib.hid hown
      have HYL := Lib.hid hyl
      have HPS := Lib.hid hps
      have HB := Lib.hid hb
      have HS := Lib.hid hsz
      have HFM := Lib.hid hfm
      have q1 : (far : Int) < (n : Int) := by omega
      have q2 : (n : Int) - (far : Int) = (m : Int) := by omega
      have q3 : (m : Int) ≤ (c4 : Int) := by omega
      have q4 : (far : Int) ≤ (n : Int) := by omega
      have q5 : (n : Int) ≤ (c4 : Int) := by omega
      have q6 : far < c4 := by omega
      have q10 : ¬ c4 = far := by omega
      have q7 : (0 : Int) ≤ (far : Int) := by omega
      have q8 : (0 : Int) ≤ (m : Int) := by omega
      have q9 : (m : Int) ≤ (n : Int) := by omega
      have s1 : IntKind.i64.wrap (m : Int) = (m : Int) := IntWalk.i64_in _ (by omega)
      have s2 : IntKind.i64.wrap ((far : Int) * 2) = ((far + far : Nat) : Int) := by rw [IntKind.wrap_i64]; omega
      clear ra rb hown hyl hps hp1 hp2 hb hsz hj hfar hys hfm hm
      go_wp2
      go_region_held3 (fun _ => True) (first | go_keep | exact trivial)
        (first
          | (go_at_call 39; (with_reducible refine (CJ.out _ _ _ _ w4.heap.size w4.heap.size _ ?_ ?_ ?_).mono ?_); (exact HB.out.drew); (exact HA.out); (exact HBb.out); rintro e w5 ⟨A5, n5, c5, rfl, ho5, hn5, hc5, hb5⟩; have hn5 : m = n5 := by { have h := ho5.len; rw [HYL.out] at h; exact h }; subst hn5; obtain ⟨g5, o5, rfl, _, _⟩ := ho5.rd.at_ hmp; have HO5 := Lib.hid ho5.rd; have HB5 := Lib.hid (HB.out.drew.trans (hb5.mono HB.out.size)); have HOW5 := Lib.hid (show Own w5 w.heap.size w4.heap.size (some ⟨g4, o4, none⟩) n zs from Own.below (w := wr.drew) HOW.out hb5); have HS5 := Lib.hid (Nat.le_trans HS.out hb5.size); obtain ⟨cur, hcur, hcl, hlo, hhi, hnew⟩ := own_splice HOW5.out HFM.out hn0 HYL.out; have HCU := Lib.hid (And.intro hcur (And.intro hcl (And.intro hlo hhi))); have HNEW := Lib.hid hnew; clear ho5 hb5 hc5 hcur hcl hlo hhi hnew)
          | (refine step_copy_splice rfl (.tmp 33) (.tmp 44) 25 25 rfl 2 Tryz.underlying25 HSZ.out (some ⟨g4, o4 + far, none⟩) (some ⟨g5, o5, none⟩) _ _ m c5 (by rfl) (by rfl) g4 (o4 + far) cur 2 HCU.out.1 (ys.map (Value.int .i64)) (by rw [List.length_map, HYL.out]; simp) (fun _ => ⟨rfl, _, rfl, HO5.out.src _ rfl⟩) (by rw [List.length_map, HYL.out]; have h1 := HCU.out.2.1; have h2 := HFM.out; omega) int_one w.heap.size _ (Below.refl _ _) HCU.out.2.2.1 ?_; intro w6 hg6 hb6; have HG6 := Lib.hid hg6; have HB6 := Lib.hid (HB5.out.trans hb6); have HS6 := Lib.hid (Nat.le_trans HS5.out hb6.size); clear hg6 hb6))
      all_goals (try go_simp)
      all_goals (try go_wp2)
      all_goals
        go_roundw
        case rel =>
          refine ⟨j + 1, ?_, HJ1.out, ?_, HS6.out, HB6.out⟩
          · rw [HPS.out]
            first | rfl | (rw [s2]) | (simp [s2])
          · rw [HST.out]; exact HNEW.out _ HG6.out
        case measure => simp [intOf]; omega
    · have hje : j = Ln.lg n := by
        rcases Nat.lt_or_ge j (Ln.lg n) with h | h
        · exact absurd (hp1.2 h) hlt
        · omega
      subst hje
      have HF := Lib.hid (And.intro hown (And.intro hsz hb))
      have i1 : ¬ (((2 ^ Ln.lg n : Nat) : Int) < (n : Int)) := by omega
      obtain ⟨far, hfar⟩ : ∃ far, far = 2 ^ Ln.lg n := ⟨_, rfl⟩
      rw [← hfar] at i1
      rw [← hfar]
      clear hown hb hp1 hp2 hps hpp hlt hj hfar hsz
      go_wp2
      go_ret2
      obtain ⟨hown, hsz, hb⟩ := HF.out
      exact ⟨_, n, c4, rfl, hown.more (Nat.le_refl _) hsz, by omega, hb⟩
theorem iStepScan_any (op b : Int) (A : Option Addr) (n c : Nat) (xs : List Int) (B : Nat) (w : World) (hn : n ≤ 1048576) (r : Rd w B A n xs) (hg : ErrT w) :
    Calls Tryz.prog 16 #[.int .i64 op, .int .i64 b, .slice A n c] w (Ret1 (Ln.stepScan op b xs).1 (Ln.stepScan op b xs).2 w) := by
  unfold Ln.stepScan
  have k0 := iopIs_any op w
  have k1 : ∀ w1, Below w.heap.size w w1 → Calls Tryz.prog 19 #[.int .i64 b, .slice A n c] w1 (RetB (Ln.vec b xs) w1) := fun w1 hbw => isVec_any b A n c xs B w1 hn (r.below hbw)
  by_cases hop : Ln.isOp op = true
  · by_cases hv : Ln.vec b xs = true
    · obtain ⟨g1, o1, rfl, _, _⟩ := r.at_ (k := 0) (by have := Ln.vec_len hv; have := r.len; omega)
      have hl4 : n = 2 ∨ n = 4 ∨ n = 8 ∨ n = 16 := by have h1 := Ln.vec_len hv; have h2 := r.len; omega
      rw [r.len]
      have hgo : Calls Tryz.prog 16 #[.int .i64 op, .int .i64 b, .slice (some ⟨g1, o1, none⟩) n c] w (Ret1 (Ln.st op b xs (Ln.lg n)) true w) := by
        rcases bits_split (Ln.vec_bits hv) with hb | hb
        · exact iStep8 op b _ n c xs B w hl4 r hb hop hv hg
        · exact iStep16 op b _ n c xs B w hl4 r hb hop hv hg
      rw [hop, hv]
      exact hgo
    · have hv' : Ln.vec b xs = false := by simpa using hv
      rw [hop, hv']
      rw [hop] at k0
      simp only [hv'] at k1
      have C0 := Lib.hid k0
      have C1 := Lib.hid k1
      clear k0 k1 r hg hop hv hv'
      go_enter Tryz.func16, Tryz.ntmps16
      go_wp2_with fail
      refine C0.out.mono ?_
      rintro e w1 ⟨rfl, hb⟩
      have HB1 := Lib.hid hb; clear hb
      go_wp2_with fail
      refine (C1.out _ HB1.out).mono ?_
      rintro e w2 ⟨rfl, hb⟩
      have HB2 := Lib.hid (HB1.out.trans (hb.mono HB1.out.size)); clear hb
      go_wp2_with fail
      go_ret2
      exact Ret1.no HB2.out
  · have hop' : Ln.isOp op = false := by simpa using hop
    rw [hop']
    rw [hop'] at k0
    have C0 := Lib.hid k0
    clear k0 k1 r hg hop hop'
    go_enter Tryz.func16, Tryz.ntmps16
    go_wp2_with fail
    refine C0.out.mono ?_
    rintro e w1 ⟨rfl, hb⟩
    have HB1 := Lib.hid hb; clear hb
    go_wp2_with fail
    go_ret2
    exact Ret1.no HB1.out
theorem sStepScan_any (op b : Int) (A : Option Addr) (n c : Nat) (xs : List Int) (B : Nat) (w : World) (hn : n ≤ 1048576) (r : Rd w B A n xs) :
    Calls Tryz.prog 32 #[.int .i64 op, .int .i64 b, .slice A n c] w (Ret1 (Ln.stepScan op b xs).1 (Ln.stepScan op b xs).2 w) := by
  have k0 := sopIs_any op w
  have k1 := sIs_any b A n c xs B w hn r
  by_cases hall : Ln.isOp op = true ∧ Ln.vec b xs = true
  · obtain ⟨hop, hv⟩ := hall
    obtain ⟨g1, o1, rfl, _, _⟩ := r.at_ (k := 0) (by have := Ln.vec_len hv; have := r.len; omega)
    have hl4 : n = 2 ∨ n = 4 ∨ n = 8 ∨ n = 16 := by have h1 := Ln.vec_len hv; have h2 := r.len; omega
    have h00 := isOp_bd hop
    have hgo := sStep_yes op b _ n c xs B w h00.1 h00.2 hl4 r hop hv
    unfold Ln.stepScan
    rw [r.len, hop, hv]
    exact hgo
  unfold Ln.stepScan
  rw [r.len]
  generalize Ln.vec b xs = p1 at *
  generalize Ln.isOp op = p0 at *
  have C0 := Lib.hid k0
  have C1 := Lib.hid k1
  clear k0 k1 r
  cases p0
  · go_enter Tryz.func32, Tryz.ntmps32
    go_wp2_with fail
    refine C0.out.mono ?_
    rintro e w1 ⟨rfl, rfl⟩
    go_wp2_with fail
    go_ret2
    exact Ret1.no (Below.refl _ _)
  · cases p1
    · go_enter Tryz.func32, Tryz.ntmps32
      go_wp2_with fail
      refine C0.out.mono ?_
      rintro e w1 ⟨rfl, rfl⟩
      go_wp2_with fail
      refine C1.out.mono ?_
      rintro e w2 ⟨rfl, hb⟩
      have HB := Lib.hid hb; clear hb
      go_wp2_with fail
      go_ret2
      exact Ret1.no HB.out
    · exact absurd ⟨rfl, rfl⟩ hall
end Go.Proofs.YteggioppoldaaaaGreatDoor.Wds
