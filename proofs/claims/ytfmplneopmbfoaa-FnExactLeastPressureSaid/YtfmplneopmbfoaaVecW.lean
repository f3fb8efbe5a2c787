/-
  The tests on vectors and masks, of the code and of the model: one contract each.
-/
import Derived.Test.YtfmplneopmbfoaaLstW
import Derived.Test.YtfmplneopmbfoaaScal
import Derived.Test.YtfmplneopmbfoaaSpec
namespace Go.Proofs.Ytfmplneopmbfoaa.Wds
open Go.RowKit
set_option linter.unusedVariables false

/-- A Bool is returned; what was there stays as it was. -/
def RetB (c : Bool) (w : World) (e : Ending) (w' : World) : Prop := e = .returned (.bool c) ∧ Below w.heap.size w w'
theorem RetB.of {c : Bool} {w w' : World} {e : Ending} (he : e = .returned (.bool c)) (hb : Below w.heap.size w w') : RetB c w e w' := ⟨he, hb⟩

theorem isLanes_any (n : Int) (w : World) : Calls Try.prog 50 #[.int .i64 n] w fun e w' => e = .returned (.bool (Ln.lanes n)) ∧ w = w' := by
  unfold Ln.lanes
  go_enter Try.func50, Try.ntmps50
  go_wp2
  all_goals
    go_ret
    exact ⟨ret_bool (by simp_all), rfl⟩
theorem sLanes_any (n : Int) (w : World) : Calls Try.prog 90 #[.int .i64 n] w fun e w' => e = .returned (.bool (Ln.lanes n)) ∧ w = w' := by
  unfold Ln.lanes
  go_enter Try.func90, Try.ntmps90
  go_wp2
  all_goals
    go_ret
    exact ⟨ret_bool (by simp_all), rfl⟩
theorem awC_any (b x : Int) (gb : Nat) (w : World) (hc : w.cell? ⟨gb, 0, none⟩ = some (.int .i64 b)) :
    Calls Try.prog 96 #[.int .i64 x, .pointer (some ⟨gb, 0, none⟩)] w fun e w' => e = .returned (.bool (!decide (Wd.IsWord b x))) ∧ Below w.heap.size w w' := by
  by_cases hw : Wd.IsWord b x
  · rw [decide_eq_true hw]
    have C := Lib.hid (isWord_yes b x w hw)
    clear hw
    go_enter Try.func96, Try.ntmps96
    go_wp2_with fail
    refine C.out.mono ?_
    rintro e w1 ⟨rfl, rfl⟩
    go_wp2
    go_ret
    exact ⟨rfl, Below.refl _ _⟩
  · rw [decide_eq_false hw]
    have C := Lib.hid (isWord_no b x w hw)
    clear hw
    go_enter Try.func96, Try.ntmps96
    go_wp2_with fail
    refine C.out.mono ?_
    rintro e w1 ⟨rfl, hb⟩
    have HB := Lib.hid hb; clear hb
    go_wp2
    go_ret
    exact ⟨rfl, HB.out⟩
/-- The first number that is no word. -/
def badW (b : Int) (zs : List Int) (e : Ending) : Prop :=
  (e = .returned (.int .i64 (-1)) ∧ ∀ j, j < zs.length → Wd.IsWord b (zs.getD j 0)) ∨ ∃ k : Nat, k < zs.length ∧ e = .returned (.int .i64 (k : Int)) ∧ ¬ Wd.IsWord b (zs.getD k 0)
set_option maxHeartbeats 1000000 in
theorem idxW_any (b : Int) (gb : Nat) (A : Option Addr) (n c : Nat) (zs : List Int) (B : Nat) (w : World) (hn : n ≤ 1048576) (h : Rd w B A n zs) (hc : w.cell? ⟨gb, 0, none⟩ = some (.int .i64 b)) :
    Calls Try.prog 98 #[.slice A n c, .func (.func 96) #[] #[.pointer (some ⟨gb, 0, none⟩)]] w fun e w' => badW b zs e ∧ Below w.heap.size w w' := by
  have H := Lib.hid h; clear h
  have HC := Lib.hid hc
  have HG := Lib.hid (World.block_lt_of_cell? w _ hc)
  clear hc
  go_enter Try.func98, Try.ntmps98
  go_wp2
  go_loopw [5, 8] (fun _ i wr => ∃ k : Nat, k ≤ n ∧ i = .int .i64 k ∧ Hid (∀ j, j < k → Wd.IsWord b (zs.getD j 0)) ∧ Below w.heap.size w wr) (fun _ i _ => n - (intOf i).toNat)
  case atStart => exact ⟨0, Nat.zero_le _, rfl, Lib.hid (fun j hj => absurd hj (Nat.not_lt_zero _)), Below.refl _ _⟩
  case round =>
    rename World => wr
    obtain ⟨k, hk, rfl, HA, hb⟩ := hrel
    by_cases hlt : k < n
    · obtain ⟨g, o, rfl, hg, c0⟩ := (H.out.below hb).at_ hlt
      have HL := Lib.hid (show k < zs.length by rw [H.out.len]; exact hlt)
      obtain ⟨x, hx⟩ : ∃ x, x = zs.getD k 0 := ⟨_, rfl⟩
      rw [← hx] at c0
      have C := Lib.hid (awC_any b x gb wr ((hb.cell (p := ⟨gb, 0, none⟩) HG.out).trans HC.out))
      have HX := Lib.hid hx
      have HB := Lib.hid hb; clear hb hx
      have i1 : (0 : Int) ≤ (k : Int) := by omega
      have i2 : (k : Int) < (n : Int) := by omega
      by_cases hw : Wd.IsWord b x
      · rw [decide_eq_true hw] at C
        have HW := Lib.hid hw; clear hw
        go_wp2_with fail
        refine C.out.mono ?_
        rintro e w1 ⟨rfl, hb1⟩
        have HB1 := Lib.hid (HB.out.trans (hb1.mono HB.out.size)); clear hb1
        go_wp2
        go_roundw
        case rel =>
          refine ⟨k + 1, by omega, by go_num, Lib.hid (fun j hj => ?_), HB1.out⟩
          rcases Nat.lt_or_ge j k with h | h
          · exact HA.out j h
          · obtain rfl : j = k := by omega
            rw [← HX.out]; exact HW.out
        case measure => simp [intOf]; omega
      · rw [decide_eq_false hw] at C
        have HW := Lib.hid hw; clear hw
        go_wp2_with fail
        refine C.out.mono ?_
        rintro e w1 ⟨rfl, hb1⟩
        have HB1 := Lib.hid (HB.out.trans (hb1.mono HB.out.size)); clear hb1
        go_wp2
        go_ret
        exact ⟨.inr ⟨k, HL.out, rfl, by rw [← HX.out]; exact HW.out⟩, HB1.out⟩
    · have hkn : k = n := by omega
      have HB := Lib.hid hb; clear hb
      subst hkn
      go_wp2
      go_ret
      exact ⟨.inl ⟨rfl, fun j hj => HA.out j (by rw [H.out.len] at hj; exact hj)⟩, HB.out⟩
theorem contW_any (b : Int) (gb : Nat) (A : Option Addr) (n c : Nat) (zs : List Int) (B : Nat) (w : World) (hn : n ≤ 1048576) (h : Rd w B A n zs) (hc : w.cell? ⟨gb, 0, none⟩ = some (.int .i64 b)) :
    Calls Try.prog 80 #[.slice A n c, .func (.func 96) #[] #[.pointer (some ⟨gb, 0, none⟩)]] w (RetB (!zs.all fun z => decide (Wd.IsWord b z)) w) := by
  have C := Lib.hid (idxW_any b gb A n c zs B w hn h hc)
  obtain ⟨r, hr⟩ : ∃ z, z = zs.all fun z => decide (Wd.IsWord b z) := ⟨_, rfl⟩
  rw [← hr]
  have HR := Lib.hid hr
  clear h hr hc
  go_enter Try.func80, Try.ntmps80
  go_wp2_with fail
  refine C.out.mono ?_
  rintro e w1 ⟨(⟨rfl, ha⟩ | ⟨k, hk, rfl, hf⟩), hb1⟩
  · have hall : (zs.all fun z => decide (Wd.IsWord b z)) = true := by
      rw [List.all_eq_true]
      intro x hx
      obtain ⟨j, hj, rfl⟩ := List.getElem_of_mem hx
      have := ha j hj
      rw [List.getD_eq_getElem?_getD, List.getElem?_eq_getElem hj] at this
      exact decide_eq_true this
    obtain rfl : r = true := by rw [HR.out]; exact hall
    have HB1 := Lib.hid hb1; clear hb1 ha hall
    go_wp2
    go_ret
    exact ⟨rfl, HB1.out⟩
  · obtain rfl : r = false := by rw [HR.out]; exact Ln.all_not (k := k) hk (decide_eq_false hf)
    have HB1 := Lib.hid hb1; clear hb1 hf
    have k0 : (0 : Int) ≤ (k : Int) := by omega
    go_wp2
    go_ret
    exact ⟨ret_bool (by simp; try omega), HB1.out⟩
theorem areW_any (b : Int) (A : Option Addr) (n c : Nat) (zs : List Int) (B : Nat) (w : World) (hn : n ≤ 1048576) (h : Rd w B A n zs) :
    Calls Try.prog 78 #[.int .i64 b, .slice A n c] w (RetB (zs.all fun z => decide (Wd.IsWord b z)) w) := by
  have hb0 : Below w.heap.size w (w.alloc (.cells #[.int .i64 b] 2)) := (Below.refl _ _).alloc (Nat.le_refl _) _
  have C := Lib.hid (contW_any b w.heap.size A n c zs B _ hn (h.below hb0) ((Blk.new w #[.int .i64 b]).cell 0))
  have HB0 := Lib.hid hb0
  clear h hb0
  generalize (zs.all fun z => decide (Wd.IsWord b z)) = r at C ⊢
  have hmf : ∀ (fn : Fn) (first cap : Array Value) (w : World), (Instr.makeFunc fn first cap).run Try.prog w = .ok (.func fn first cap) w := fun _ _ _ _ => rfl
  go_enter Try.func78, Try.ntmps78
  go_wp2_with fail
  refine C.out.mono ?_
  rintro e w1 ⟨rfl, hb1⟩
  have HB1 := Lib.hid (HB0.out.trans (hb1.mono HB0.out.size)); clear hb1
  go_wp2
  go_ret
  exact ⟨ret_bool (by simp), HB1.out⟩
theorem isVec_any (b : Int) (A : Option Addr) (n c : Nat) (zs : List Int) (B : Nat) (w : World) (hn : n ≤ 1048576) (h : Rd w B A n zs) :
    Calls Try.prog 46 #[.int .i64 b, .slice A n c] w (RetB (Ln.vec b zs) w) := by
  have C := Lib.hid (fun W (hb : Below w.heap.size w W) => areW_any b A n c zs B W hn (h.below hb))
  unfold Ln.vec
  rw [h.len]
  clear h
  have CL := Lib.hid (isLanes_any (n : Int) w)
  generalize Ln.lanes (n : Int) = l at CL ⊢
  generalize (zs.all fun z => decide (Wd.IsWord b z)) = r at C ⊢
  cases l
  · go_enter Try.func46, Try.ntmps46
    go_wp2_with fail
    refine CL.out.mono ?_
    rintro e w1 ⟨rfl, rfl⟩
    go_wp2
    go_ret
    exact ⟨ret_bool (by simp), Below.refl _ _⟩
  · go_enter Try.func46, Try.ntmps46
    go_wp2_with fail
    refine CL.out.mono ?_
    rintro e w1 ⟨rfl, rfl⟩
    go_wp2_with fail
    refine (C.out _ (Below.refl _ _)).mono ?_
    rintro e w2 ⟨rfl, hb2⟩
    have HB2 := Lib.hid hb2; clear hb2
    go_wp2
    go_ret
    exact ⟨ret_bool (by simp), HB2.out⟩
set_option maxHeartbeats 400000 in
theorem sWords_any (b : Int) (A : Option Addr) (n c : Nat) (zs : List Int) (B : Nat) (w : World) (hn : n ≤ 1048576) (h : Rd w B A n zs) :
    Calls Try.prog 91 #[.int .i64 b, .slice A n c] w (RetB ((zs.all fun z => decide (Wd.IsWord b z)) && decide (Wd.IsBits b)) w) := by
  have H := Lib.hid h; clear h
  go_enter Try.func91, Try.ntmps91
  go_wp2
  go_loopw [5] (fun i wr => ∃ k : Nat, k ≤ n ∧ i = .int .i64 k ∧ ((zs.take k).all fun z => decide (Wd.IsWord b z)) = true ∧ Below w.heap.size w wr) (fun i _ => n - (intOf i).toNat)
  case atStart => exact ⟨0, Nat.zero_le _, rfl, by simp, Below.refl _ _⟩
  case round =>
    obtain ⟨k, hk, rfl, hall, hb⟩ := hrel
    have hln : zs.length = n := H.out.len
    by_cases hlt : k < n
    · obtain ⟨g, o, rfl, hg, hc⟩ := H.out.at_ hlt
      have hd := (hb.cell (p := ⟨g, o + k, none⟩) (World.block_lt_of_cell? w _ hc)).trans hc
      have hsn := Ln.all_snoc (fun z => decide (Wd.IsWord b z)) zs k (by omega)
      rw [hall, Bool.true_and] at hsn
      by_cases hw : Wd.IsWord b (zs.getD k 0)
      · rw [decide_eq_true hw] at hsn
        obtain ⟨z, hz⟩ : ∃ z, z = zs.getD k 0 := ⟨_, rfl⟩
        rw [← hz] at hd hw
        have HS := Lib.hid hsn
        have HW := Lib.hid hw
        have HB := Lib.hid hb; clear hz hc hb hsn hall hln hw
        go_wp2_with (go_at_call 101; refine (sword_yes _ _ _ HW.out).mono ?_; rintro e w' ⟨rfl, rfl⟩)
        go_roundw
        case rel => exact ⟨k + 1, by omega, by go_num, HS.out, HB.out⟩
        case measure => simp [intOf]; omega
      · have hno : (zs.all fun z => decide (Wd.IsWord b z)) = false := Ln.all_not (k := k) (by omega) (decide_eq_false hw)
        obtain ⟨z, hz⟩ : ∃ z, z = zs.getD k 0 := ⟨_, rfl⟩
        rw [← hz] at hd hw
        have HS := Lib.hid hno
        have HW := Lib.hid hw
        have HB := Lib.hid hb; clear hz hc hb hsn hall hln hw hno
        go_wp2_with (go_at_call 101; refine (sword_no _ _ _ HW.out).mono ?_; rintro e w' ⟨rfl, rfl⟩)
        go_ret
        exact ⟨ret_bool (by rw [HS.out]; rfl), HB.out⟩
    · have e := Ln.all_end (by omega) hall
      have HE := Lib.hid e
      have HB := Lib.hid hb; clear e hb hall hln
      go_wp2_with (go_at_call 102; refine (sbits_any _ _).mono ?_; rintro e w' ⟨rfl, rfl⟩)
      go_ret
      exact ⟨ret_bool (by rw [HE.out]; rfl), HB.out⟩
theorem vec_words (b : Int) (zs : List Int) (n : Nat) (hn : zs.length = n) : Ln.vec b zs = (Ln.lanes n && ((zs.all fun z => decide (Wd.IsWord b z)) && decide (Wd.IsBits b))) := by
  subst hn
  unfold Ln.vec
  cases hl : Ln.lanes zs.length
  · rfl
  · rw [Bool.true_and, Bool.true_and]
    cases ha : zs.all fun z => decide (Wd.IsWord b z)
    · rfl
    · rw [Bool.true_and]
      have : Ln.vec b zs = true := by unfold Ln.vec; rw [hl, ha]; rfl
      exact (decide_eq_true (Ln.vec_bits this)).symm
theorem sIs_any (b : Int) (A : Option Addr) (n c : Nat) (zs : List Int) (B : Nat) (w : World) (hn : n ≤ 1048576) (h : Rd w B A n zs) :
    Calls Try.prog 64 #[.int .i64 b, .slice A n c] w (RetB (Ln.vec b zs) w) := by
  have c2 := sWords_any b A n c zs B w hn h
  have c1 := sLanes_any n w
  rw [vec_words b zs n h.len]
  generalize Ln.lanes n = l1 at *
  generalize ((zs.all fun z => decide (Wd.IsWord b z)) && decide (Wd.IsBits b)) = l2 at *
  have C1 := Lib.hid c1
  have C2 := Lib.hid c2
  clear c1 c2 h
  cases l1
  · go_enter Try.func64, Try.ntmps64
    go_wp2_with (go_at_call 90; refine C1.out.mono ?_; rintro e w' ⟨rfl, rfl⟩)
    go_ret
    exact ⟨rfl, Below.refl _ _⟩
  · go_enter Try.func64, Try.ntmps64
    go_wp2_with (first | (go_at_call 90; refine C1.out.mono ?_; rintro e w' ⟨rfl, rfl⟩) | (go_at_call 91; refine C2.out.mono ?_; rintro e w' ⟨rfl, hb⟩))
    go_ret
    exact ⟨ret_bool (by simp), hb⟩
theorem areVec_any (b : Int) (A A' : Option Addr) (n n' c c' : Nat) (zs ys : List Int) (B B' : Nat) (w : World) (hn : n ≤ 1048576) (hn' : n' ≤ 1048576) (h : Rd w B A n zs) (h' : Rd w B' A' n' ys) :
    Calls Try.prog 52 #[.int .i64 b, .slice A n c, .slice A' n' c'] w (RetB (Ln.both b zs ys) w) := by
  have hl := h.len
  have hl' := h'.len
  have c1 := isVec_any b A n c zs B w hn h
  have c2 : ∀ w1, Below w.heap.size w w1 → Calls Try.prog 46 #[.int .i64 b, .slice A' n' c'] w1 (RetB (Ln.vec b ys) w1) := fun w1 hb => isVec_any b A' n' c' ys B' w1 hn' (h'.below hb)
  unfold Ln.both
  rw [hl, hl']
  generalize Ln.vec b zs = l1 at *
  generalize Ln.vec b ys = l2 at *
  have C1 := Lib.hid c1
  have C2 := Lib.hid c2
  clear c1 c2 h h' hl hl'
  by_cases he : n = n'
  · subst he
    have e1 : ((n : Int) == (n : Int)) = true := by simp
    cases l1
    · go_enter Try.func52, Try.ntmps52
      go_wp2_with (go_at_call 46; refine C1.out.mono ?_; rintro e w' ⟨rfl, hb⟩)
      go_ret
      exact ⟨rfl, hb⟩
    · cases l2
      all_goals
        go_enter Try.func52, Try.ntmps52
        go_wp2_with fail
        refine C1.out.mono ?_
        rintro e w' ⟨rfl, hb⟩
        have HB := Lib.hid hb; clear hb
        go_wp2_with fail
        refine (C2.out _ HB.out).mono ?_
        rintro e w'' ⟨rfl, hb2⟩
        have HB2 := Lib.hid hb2; clear hb2
        go_wp2_with fail
        go_ret
        exact ⟨ret_bool (by simp), HB.out.trans (HB2.out.mono HB.out.size)⟩
  · have e1 : ((n : Int) == (n' : Int)) = false := by simp; omega
    have e2 : (n == n') = false := by simp; omega
    rw [e2]
    clear e2
    go_enter Try.func52, Try.ntmps52
    go_wp2_with fail
    go_ret
    exact ⟨ret_bool (by simp), Below.refl _ _⟩
theorem sBoth_any (b : Int) (A A' : Option Addr) (n n' c c' : Nat) (zs ys : List Int) (B B' : Nat) (w : World) (hn : n ≤ 1048576) (hn' : n' ≤ 1048576) (h : Rd w B A n zs) (h' : Rd w B' A' n' ys) :
    Calls Try.prog 68 #[.int .i64 b, .slice A n c, .slice A' n' c'] w (RetB (Ln.both b zs ys) w) := by
  have hl := h.len
  have hl' := h'.len
  have c1 := sIs_any b A n c zs B w hn h
  have c2 : ∀ w1, Below w.heap.size w w1 → Calls Try.prog 64 #[.int .i64 b, .slice A' n' c'] w1 (RetB (Ln.vec b ys) w1) := fun w1 hb => sIs_any b A' n' c' ys B' w1 hn' (h'.below hb)
  unfold Ln.both
  rw [hl, hl']
  generalize Ln.vec b zs = l1 at *
  generalize Ln.vec b ys = l2 at *
  have C1 := Lib.hid c1
  have C2 := Lib.hid c2
  clear c1 c2 h h' hl hl'
  have key : ∀ e1 : Bool, e1 = ((n : Int) == (n' : Int)) → e1 = (n == n') := by
    intro e1 h1
    rw [h1, Bool.eq_iff_iff]
    simp
    omega
  obtain ⟨e1, he1⟩ : ∃ e1, e1 = ((n : Int) == (n' : Int)) := ⟨_, rfl⟩
  rw [← key e1 he1]
  have he2 := he1.symm
  clear he1 key
  cases l1
  · go_enter Try.func68, Try.ntmps68
    go_wp2_with (go_at_call 64; refine C1.out.mono ?_; rintro e w' ⟨rfl, hb⟩)
    go_ret
    exact ⟨rfl, hb⟩
  · cases l2
    · go_enter Try.func68, Try.ntmps68
      go_wp2_with fail
      refine C1.out.mono ?_
      rintro e w' ⟨rfl, hb⟩
      have HB := Lib.hid hb; clear hb
      go_wp2_with fail
      refine (C2.out _ HB.out).mono ?_
      rintro e w'' ⟨rfl, hb2⟩
      have HB2 := Lib.hid hb2; clear hb2
      go_wp2_with fail
      go_ret
      exact ⟨ret_bool (by simp), HB.out.trans (HB2.out.mono HB.out.size)⟩
    · cases e1
      all_goals
        go_enter Try.func68, Try.ntmps68
        go_wp2_with fail
        refine C1.out.mono ?_
        rintro e w' ⟨rfl, hb⟩
        have HB := Lib.hid hb; clear hb
        go_wp2_with fail
        refine (C2.out _ HB.out).mono ?_
        rintro e w'' ⟨rfl, hb2⟩
        have HB2 := Lib.hid hb2; clear hb2
        go_wp2_with fail
        go_ret
        exact ⟨ret_bool (by simp), HB.out.trans (HB2.out.mono HB.out.size)⟩
theorem iIsVector_any (b : Int) (A : Option Addr) (n c : Nat) (zs : List Int) (B : Nat) (w : World) (hn : n ≤ 1048576) (h : Rd w B A n zs) :
    Calls Try.prog 46 #[.int .i64 b, .slice A n c] w (RetB (Ln.vec b zs) w) := isVec_any b A n c zs B w hn h
end Go.Proofs.Ytfmplneopmbfoaa.Wds
