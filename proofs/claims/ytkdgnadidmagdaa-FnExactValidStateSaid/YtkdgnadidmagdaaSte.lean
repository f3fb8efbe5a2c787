/-
  The code's tests on a state, and the laws' helpers over states: a copy, the test of equality, the size; one contract each.
-/
import Derived.Test.YtkdgnadidmagdaaSSte
namespace Go.Proofs.Ytkdgnadidmagdaa.Wds
open Go.RowKit
set_option linter.unusedVariables false

theorem isMem_any (l b : Int) (A : Option Addr) (n c : Nat) (Y : List Int) (B : Nat) (w : World) (hn : n ≤ 1048576) (h : Rd w B A n Y) :
    Calls Try.prog 46 #[.agg #[.int .i64 l, .int .i64 b], .slice A n c] w (RetB (Mc.memOk b Y) w) := by
  have hb0 : Below w.heap.size w (w.alloc (.cells #[.int .i64 l, .int .i64 b] 25)) := (Below.refl _ _).alloc (Nat.le_refl _) _
  have C := Lib.hid (areW_any b A n c Y B _ hn (h.below hb0))
  have HB0 := Lib.hid hb0
  have hl := h.len
  unfold Mc.memOk Mc.wds
  rw [hl]
  clear h hb0 hl
  generalize (Y.all fun z => decide (Wd.IsWord b z)) = r at C ⊢
  by_cases e : n = 64
  · have f1 : ((n : Int) == 64) = true := by simp; omega
    rw [decide_eq_true e]
    clear e
    go_enter Try.func46, Try.ntmps46
    go_wp2_with fail
    refine C.out.mono ?_
    rintro e w1 ⟨rfl, hb1⟩
    have HB1 := Lib.hid (HB0.out.trans (hb1.mono HB0.out.size)); clear hb1
    go_wp2
    go_ret
    exact ⟨ret_bool (by simp), HB1.out⟩
  · have f1 : ((n : Int) == 64) = false := by simp; omega
    rw [decide_eq_false e]
    clear e C
    go_enter Try.func46, Try.ntmps46
    go_wp2
    go_ret
    exact ⟨ret_bool (by simp), HB0.out⟩
theorem isVecM_any (l b : Int) (A : Option Addr) (n c : Nat) (z : List Int) (B : Nat) (w : World) (hm : Mc.mok l b = true) (hn : n ≤ 1048576) (h : Rd w B A n z) :
    Calls Try.prog 48 #[.agg #[.int .i64 l, .int .i64 b], .slice A n c] w (RetB (Mc.vecR l b z) w) := by
  have hb0 : Below w.heap.size w (w.alloc (.cells #[.int .i64 l, .int .i64 b] 25)) := (Below.refl _ _).alloc (Nat.le_refl _) _
  have C := Lib.hid (isVec_any b A n c z B _ hn (h.below hb0))
  have HB0 := Lib.hid hb0
  have hl := h.len
  rw [← Mc.vec_of hm z, hl]
  clear h hb0 hl hm
  generalize Ln.vec b z = r at C ⊢
  by_cases e : (n : Int) = l
  · have f1 : ((n : Int) == l) = true := by simp; omega
    rw [decide_eq_true e]
    clear e
    go_enter Try.func48, Try.ntmps48
    go_wp2_with fail
    refine C.out.mono ?_
    rintro e w1 ⟨rfl, hb1⟩
    have HB1 := Lib.hid (HB0.out.trans (hb1.mono HB0.out.size)); clear hb1
    go_wp2
    go_ret
    exact ⟨ret_bool (by simp), HB1.out⟩
  · have f1 : ((n : Int) == l) = false := by simp; omega
    rw [decide_eq_false e]
    clear e C
    go_enter Try.func48, Try.ntmps48
    go_wp2
    go_ret
    exact ⟨ret_bool (by simp), HB0.out⟩
theorem isMskM_any (l b : Int) (A : Option Addr) (n c : Nat) (z : List Int) (B : Nat) (w : World) (hm : Mc.mok l b = true) (hn : n ≤ 1048576) (h : Rd w B A n z) :
    Calls Try.prog 49 #[.agg #[.int .i64 l, .int .i64 b], .slice A n c] w (RetB (Mc.mskR l z) w) := by
  have hb0 : Below w.heap.size w (w.alloc (.cells #[.int .i64 l, .int .i64 b] 25)) := (Below.refl _ _).alloc (Nat.le_refl _) _
  have C := Lib.hid (isMask_any A n c z B _ hn (h.below hb0))
  have HB0 := Lib.hid hb0
  have hl := h.len
  rw [← Mc.msk_of hm z, hl]
  clear h hb0 hl hm
  generalize Ln.msk z = r at C ⊢
  by_cases e : (n : Int) = l
  · have f1 : ((n : Int) == l) = true := by simp; omega
    rw [decide_eq_true e]
    clear e
    go_enter Try.func49, Try.ntmps49
    go_wp2_with fail
    refine C.out.mono ?_
    rintro e w1 ⟨rfl, hb1⟩
    have HB1 := Lib.hid (HB0.out.trans (hb1.mono HB0.out.size)); clear hb1
    go_wp2
    go_ret
    exact ⟨ret_bool (by simp), HB1.out⟩
  · have f1 : ((n : Int) == l) = false := by simp; omega
    rw [decide_eq_false e]
    clear e C
    go_enter Try.func49, Try.ntmps49
    go_wp2
    go_ret
    exact ⟨ret_bool (by simp), HB0.out⟩
theorem aa1V_any (l b : Int) (gb : Nat) (R : Option Addr) (m c : Nat) (z : List Int) (B : Nat) (w : World) (hm : Mc.mok l b = true) (hn : m ≤ 1048576) (h : Rd w B R m z) (hc : w.cell? ⟨gb, 0, none⟩ = some (.func (.func 48) #[.agg #[.int .i64 l, .int .i64 b]] #[])) :
    Calls Try.prog 70 #[.slice R m c, .pointer (some ⟨gb, 0, none⟩)] w (RetB (!Mc.vecR l b z) w) := by
  have C := Lib.hid (isVecM_any l b R m c z B w hm hn h)
  clear h hm
  generalize Mc.vecR l b z = r at C ⊢
  go_enter Try.func70, Try.ntmps70
  go_wp2_with fail
  refine C.out.mono ?_
  rintro e w1 ⟨rfl, hb1⟩
  have HB1 := Lib.hid hb1; clear hb1
  go_wp2
  go_ret
  exact ⟨rfl, HB1.out⟩
/-- The first list that does not fit. -/
def badV (l b : Int) (V : List (List Int)) (e : Ending) : Prop :=
  (e = .returned (.int .i64 (-1)) ∧ ∀ j, j < V.length → Mc.vecR l b (V.getD j []) = true) ∨ ∃ k : Nat, k < V.length ∧ e = .returned (.int .i64 (k : Int)) ∧ Mc.vecR l b (V.getD k []) = false
set_option maxHeartbeats 1000000 in
theorem idxV_any (l b : Int) (gb : Nat) (A : Option Addr) (n c : Nat) (V : List (List Int)) (B : Nat) (w : World) (hm : Mc.mok l b = true) (tV : Ln.totL V ≤ 1048576) (h : RdR w B A n V) (hc : w.cell? ⟨gb, 0, none⟩ = some (.func (.func 48) #[.agg #[.int .i64 l, .int .i64 b]] #[])) :
    Calls Try.prog 88 #[.slice A n c, .func (.func 70) #[] #[.pointer (some ⟨gb, 0, none⟩)]] w fun e w' => badV l b V e ∧ Below w.heap.size w w' := by
  have hl := h.len
  have nV : n ≤ 1048576 := by unfold Ln.totL at tV; omega
  have HL := Lib.hid hl
  have HT := Lib.hid tV
  have H := Lib.hid h
  have HC := Lib.hid hc
  have HMO := Lib.hid hm
  clear hc h hl tV hm
  go_enter Try.func88, Try.ntmps88
  go_wp2
  go_loopw [5, 8] (fun _ i wr => ∃ k : Nat, k ≤ n ∧ i = .int .i64 k ∧ Hid (∀ j, j < k → Mc.vecR l b (V.getD j []) = true) ∧ Below w.heap.size w wr) (fun _ i _ => n - (intOf i).toNat)
  case atStart => exact ⟨0, Nat.zero_le _, rfl, Lib.hid (fun j hj => absurd hj (Nat.not_lt_zero _)), Below.refl _ _⟩
  case round =>
    rename World => wr
    obtain ⟨k, hk, rfl, HA, hb⟩ := hrel
    by_cases hlt : k < n
    · obtain ⟨g, o, R, m, cm, rfl, hg, hcr, _, hr⟩ := (H.out.below hb).at_ hlt
      have HLK := Lib.hid (show k < V.length by rw [HL.out]; exact hlt)
      have hmm : m ≤ 1048576 := by
        have h1 := Ln.row_le V k (by rw [HL.out]; exact hlt)
        have h2 := hr.len
        have h3 := HT.out
        unfold Ln.totL at h3
        omega
      have C := Lib.hid (aa1V_any l b gb R m cm (V.getD k []) B wr HMO.out hmm hr (later HC.out hb))
      obtain ⟨r, hrr⟩ : ∃ r, r = Mc.vecR l b (V.getD k []) := ⟨_, rfl⟩
      rw [← hrr] at C
      have HRR := Lib.hid hrr
      have HB := Lib.hid hb
      clear hb hr hrr
      have i1 : (0 : Int) ≤ (k : Int) := by omega
      have i2 : (k : Int) < (n : Int) := by omega
      cases r
      · go_wp2_with fail
        refine C.out.mono ?_
        rintro e w1 ⟨rfl, hb1⟩
        have HB1 := Lib.hid (HB.out.trans (hb1.mono HB.out.size)); clear hb1
        go_wp2
        go_ret
        exact ⟨.inr ⟨k, HLK.out, rfl, HRR.out.symm⟩, HB1.out⟩
      · go_wp2_with fail
        refine C.out.mono ?_
        rintro e w1 ⟨rfl, hb1⟩
        have HB1 := Lib.hid (HB.out.trans (hb1.mono HB.out.size)); clear hb1
        go_wp2
        go_roundw
        case rel =>
          refine ⟨k + 1, by omega, by go_num, Lib.hid (fun j hj => ?_), HB1.out⟩
          rcases Nat.lt_or_ge j k with h | h
          · exact HA.out j h
          · obtain rfl : j = k := by omega
            exact HRR.out.symm
        case measure => simp [intOf]; omega
    · have hkn : k = n := by omega
      have HB := Lib.hid hb; clear hb
      subst hkn
      go_wp2
      go_ret
      exact ⟨.inl ⟨rfl, fun j hj => HA.out j (by rw [HL.out] at hj; exact hj)⟩, HB.out⟩
theorem contV_any (l b : Int) (gb : Nat) (A : Option Addr) (n c : Nat) (V : List (List Int)) (B : Nat) (w : World) (hm : Mc.mok l b = true) (tV : Ln.totL V ≤ 1048576) (h : RdR w B A n V) (hc : w.cell? ⟨gb, 0, none⟩ = some (.func (.func 48) #[.agg #[.int .i64 l, .int .i64 b]] #[])) :
    Calls Try.prog 69 #[.slice A n c, .func (.func 70) #[] #[.pointer (some ⟨gb, 0, none⟩)]] w (RetB (!V.all (Mc.vecR l b)) w) := by
  have C := Lib.hid (idxV_any l b gb A n c V B w hm tV h hc)
  obtain ⟨r, hr⟩ : ∃ z, z = V.all (Mc.vecR l b) := ⟨_, rfl⟩
  rw [← hr]
  have HR := Lib.hid hr
  clear h hr hc hm tV
  go_enter Try.func69, Try.ntmps69
  go_wp2_with fail
  refine C.out.mono ?_
  rintro e w1 ⟨(⟨rfl, ha⟩ | ⟨k, hk, rfl, hf⟩), hb1⟩
  · have hall : V.all (Mc.vecR l b) = true := by
      rw [List.all_eq_true]
      intro x hx
      obtain ⟨j, hj, rfl⟩ := List.getElem_of_mem hx
      have := ha j hj
      rw [List.getD_eq_getElem?_getD, List.getElem?_eq_getElem hj] at this
      exact this
    obtain rfl : r = true := by rw [HR.out]; exact hall
    have HB1 := Lib.hid hb1; clear hb1 ha hall
    go_wp2
    go_ret
    exact ⟨rfl, HB1.out⟩
  · obtain rfl : r = false := by rw [HR.out]; exact Mc.allR_not (k := k) hk hf
    have HB1 := Lib.hid hb1; clear hb1 hf
    have k0 : (0 : Int) ≤ (k : Int) := by omega
    go_wp2
    go_ret
    exact ⟨ret_bool (by simp; try omega), HB1.out⟩
theorem allV_any (l b : Int) (A : Option Addr) (n c N : Nat) (V : List (List Int)) (B : Nat) (w : World) (hm : Mc.mok l b = true) (tV : Ln.totL V ≤ 1048576) (hN : N ≤ 64) (h : RdR w B A n V) :
    Calls Try.prog 47 #[.slice A n c, .int .i64 (N : Int), .func (.func 48) #[.agg #[.int .i64 l, .int .i64 b]] #[]] w (RetB (decide (V.length = N) && V.all (Mc.vecR l b)) w) := by
  have hb0 : Below w.heap.size w (w.alloc (.cells #[.func (.func 48) #[.agg #[.int .i64 l, .int .i64 b]] #[]] 71)) := (Below.refl _ _).alloc (Nat.le_refl _) _
  have C := Lib.hid (contV_any l b w.heap.size A n c V B _ hm tV (h.below hb0) ((cell_of_row _ _ 0 _ _ (0, 0) (heap_alloc_new w _)).trans rfl))
  have HB0 := Lib.hid hb0
  have hl := h.len
  rw [hl]
  clear h hb0 hl hm tV
  have hmf : ∀ (fn : Fn) (first cap : Array Value) (w : World), (Instr.makeFunc fn first cap).run Try.prog w = .ok (.func fn first cap) w := fun _ _ _ _ => rfl
  generalize V.all (Mc.vecR l b) = r at C ⊢
  by_cases e : n = N
  · have f1 : ((n : Int) == (N : Int)) = true := by simp; omega
    rw [decide_eq_true e]
    clear e
    go_enter Try.func47, Try.ntmps47
    go_wp2_with fail
    refine C.out.mono ?_
    rintro e w1 ⟨rfl, hb1⟩
    have HB1 := Lib.hid (HB0.out.trans (hb1.mono HB0.out.size)); clear hb1
    go_wp2
    go_ret
    exact ⟨ret_bool (by simp), HB1.out⟩
  · have f1 : ((n : Int) == (N : Int)) = false := by simp; omega
    rw [decide_eq_false e]
    clear e C
    go_enter Try.func47, Try.ntmps47
    go_wp2
    go_ret
    exact ⟨ret_bool (by simp), HB0.out⟩
theorem aa1K_any (l b : Int) (gb : Nat) (R : Option Addr) (m c : Nat) (z : List Int) (B : Nat) (w : World) (hm : Mc.mok l b = true) (hn : m ≤ 1048576) (h : Rd w B R m z) (hc : w.cell? ⟨gb, 0, none⟩ = some (.func (.func 49) #[.agg #[.int .i64 l, .int .i64 b]] #[])) :
    Calls Try.prog 70 #[.slice R m c, .pointer (some ⟨gb, 0, none⟩)] w (RetB (!Mc.mskR l z) w) := by
  have C := Lib.hid (isMskM_any l b R m c z B w hm hn h)
  clear h hm
  generalize Mc.mskR l z = r at C ⊢
  go_enter Try.func70, Try.ntmps70
  go_wp2_with fail
  refine C.out.mono ?_
  rintro e w1 ⟨rfl, hb1⟩
  have HB1 := Lib.hid hb1; clear hb1
  go_wp2
  go_ret
  exact ⟨rfl, HB1.out⟩
/-- The first list that does not fit. -/
def badK (l b : Int) (V : List (List Int)) (e : Ending) : Prop :=
  (e = .returned (.int .i64 (-1)) ∧ ∀ j, j < V.length → Mc.mskR l (V.getD j []) = true) ∨ ∃ k : Nat, k < V.length ∧ e = .returned (.int .i64 (k : Int)) ∧ Mc.mskR l (V.getD k []) = false
set_option maxHeartbeats 1000000 in
theorem idxK_any (l b : Int) (gb : Nat) (A : Option Addr) (n c : Nat) (V : List (List Int)) (B : Nat) (w : World) (hm : Mc.mok l b = true) (tV : Ln.totL V ≤ 1048576) (h : RdR w B A n V) (hc : w.cell? ⟨gb, 0, none⟩ = some (.func (.func 49) #[.agg #[.int .i64 l, .int .i64 b]] #[])) :
    Calls Try.prog 88 #[.slice A n c, .func (.func 70) #[] #[.pointer (some ⟨gb, 0, none⟩)]] w fun e w' => badK l b V e ∧ Below w.heap.size w w' := by
  have hl := h.len
  have nV : n ≤ 1048576 := by unfold Ln.totL at tV; omega
  have HL := Lib.hid hl
  have HT := Lib.hid tV
  have H := Lib.hid h
  have HC := Lib.hid hc
  have HMO := Lib.hid hm
  clear hc h hl tV hm
  go_enter Try.func88, Try.ntmps88
  go_wp2
  go_loopw [5, 8] (fun _ i wr => ∃ k : Nat, k ≤ n ∧ i = .int .i64 k ∧ Hid (∀ j, j < k → Mc.mskR l (V.getD j []) = true) ∧ Below w.heap.size w wr) (fun _ i _ => n - (intOf i).toNat)
  case atStart => exact ⟨0, Nat.zero_le _, rfl, Lib.hid (fun j hj => absurd hj (Nat.not_lt_zero _)), Below.refl _ _⟩
  case round =>
    rename World => wr
    obtain ⟨k, hk, rfl, HA, hb⟩ := hrel
    by_cases hlt : k < n
    · obtain ⟨g, o, R, m, cm, rfl, hg, hcr, _, hr⟩ := (H.out.below hb).at_ hlt
      have HLK := Lib.hid (show k < V.length by rw [HL.out]; exact hlt)
      have hmm : m ≤ 1048576 := by
        have h1 := Ln.row_le V k (by rw [HL.out]; exact hlt)
        have h2 := hr.len
        have h3 := HT.out
        unfold Ln.totL at h3
        omega
      have C := Lib.hid (aa1K_any l b gb R m cm (V.getD k []) B wr HMO.out hmm hr (later HC.out hb))
      obtain ⟨r, hrr⟩ : ∃ r, r = Mc.mskR l (V.getD k []) := ⟨_, rfl⟩
      rw [← hrr] at C
      have HRR := Lib.hid hrr
      have HB := Lib.hid hb
      clear hb hr hrr
      have i1 : (0 : Int) ≤ (k : Int) := by omega
      have i2 : (k : Int) < (n : Int) := by omega
      cases r
      · go_wp2_with fail
        refine C.out.mono ?_
        rintro e w1 ⟨rfl, hb1⟩
        have HB1 := Lib.hid (HB.out.trans (hb1.mono HB.out.size)); clear hb1
        go_wp2
        go_ret
        exact ⟨.inr ⟨k, HLK.out, rfl, HRR.out.symm⟩, HB1.out⟩
      · go_wp2_with fail
        refine C.out.mono ?_
        rintro e w1 ⟨rfl, hb1⟩
        have HB1 := Lib.hid (HB.out.trans (hb1.mono HB.out.size)); clear hb1
        go_wp2
        go_roundw
        case rel =>
          refine ⟨k + 1, by omega, by go_num, Lib.hid (fun j hj => ?_), HB1.out⟩
          rcases Nat.lt_or_ge j k with h | h
          · exact HA.out j h
          · obtain rfl : j = k := by omega
            exact HRR.out.symm
        case measure => simp [intOf]; omega
    · have hkn : k = n := by omega
      have HB := Lib.hid hb; clear hb
      subst hkn
      go_wp2
      go_ret
      exact ⟨.inl ⟨rfl, fun j hj => HA.out j (by rw [HL.out] at hj; exact hj)⟩, HB.out⟩
theorem contK_any (l b : Int) (gb : Nat) (A : Option Addr) (n c : Nat) (V : List (List Int)) (B : Nat) (w : World) (hm : Mc.mok l b = true) (tV : Ln.totL V ≤ 1048576) (h : RdR w B A n V) (hc : w.cell? ⟨gb, 0, none⟩ = some (.func (.func 49) #[.agg #[.int .i64 l, .int .i64 b]] #[])) :
    Calls Try.prog 69 #[.slice A n c, .func (.func 70) #[] #[.pointer (some ⟨gb, 0, none⟩)]] w (RetB (!V.all (Mc.mskR l)) w) := by
  have C := Lib.hid (idxK_any l b gb A n c V B w hm tV h hc)
  obtain ⟨r, hr⟩ : ∃ z, z = V.all (Mc.mskR l) := ⟨_, rfl⟩
  rw [← hr]
  have HR := Lib.hid hr
  clear h hr hc hm tV
  go_enter Try.func69, Try.ntmps69
  go_wp2_with fail
  refine C.out.mono ?_
  rintro e w1 ⟨(⟨rfl, ha⟩ | ⟨k, hk, rfl, hf⟩), hb1⟩
  · have hall : V.all (Mc.mskR l) = true := by
      rw [List.all_eq_true]
      intro x hx
      obtain ⟨j, hj, rfl⟩ := List.getElem_of_mem hx
      have := ha j hj
      rw [List.getD_eq_getElem?_getD, List.getElem?_eq_getElem hj] at this
      exact this
    obtain rfl : r = true := by rw [HR.out]; exact hall
    have HB1 := Lib.hid hb1; clear hb1 ha hall
    go_wp2
    go_ret
    exact ⟨rfl, HB1.out⟩
  · obtain rfl : r = false := by rw [HR.out]; exact Mc.allR_not (k := k) hk hf
    have HB1 := Lib.hid hb1; clear hb1 hf
    have k0 : (0 : Int) ≤ (k : Int) := by omega
    go_wp2
    go_ret
    exact ⟨ret_bool (by simp; try omega), HB1.out⟩
theorem allK_any (l b : Int) (A : Option Addr) (n c N : Nat) (V : List (List Int)) (B : Nat) (w : World) (hm : Mc.mok l b = true) (tV : Ln.totL V ≤ 1048576) (hN : N ≤ 64) (h : RdR w B A n V) :
    Calls Try.prog 47 #[.slice A n c, .int .i64 (N : Int), .func (.func 49) #[.agg #[.int .i64 l, .int .i64 b]] #[]] w (RetB (decide (V.length = N) && V.all (Mc.mskR l)) w) := by
  have hb0 : Below w.heap.size w (w.alloc (.cells #[.func (.func 49) #[.agg #[.int .i64 l, .int .i64 b]] #[]] 71)) := (Below.refl _ _).alloc (Nat.le_refl _) _
  have C := Lib.hid (contK_any l b w.heap.size A n c V B _ hm tV (h.below hb0) ((cell_of_row _ _ 0 _ _ (0, 0) (heap_alloc_new w _)).trans rfl))
  have HB0 := Lib.hid hb0
  have hl := h.len
  rw [hl]
  clear h hb0 hl hm tV
  have hmf : ∀ (fn : Fn) (first cap : Array Value) (w : World), (Instr.makeFunc fn first cap).run Try.prog w = .ok (.func fn first cap) w := fun _ _ _ _ => rfl
  generalize V.all (Mc.mskR l) = r at C ⊢
  by_cases e : n = N
  · have f1 : ((n : Int) == (N : Int)) = true := by simp; omega
    rw [decide_eq_true e]
    clear e
    go_enter Try.func47, Try.ntmps47
    go_wp2_with fail
    refine C.out.mono ?_
    rintro e w1 ⟨rfl, hb1⟩
    have HB1 := Lib.hid (HB0.out.trans (hb1.mono HB0.out.size)); clear hb1
    go_wp2
    go_ret
    exact ⟨ret_bool (by simp), HB1.out⟩
  · have f1 : ((n : Int) == (N : Int)) = false := by simp; omega
    rw [decide_eq_false e]
    clear e C
    go_enter Try.func47, Try.ntmps47
    go_wp2
    go_ret
    exact ⟨ret_bool (by simp), HB0.out⟩
end Go.Proofs.Ytkdgnadidmagdaa.Wds
