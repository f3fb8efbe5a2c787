/-
  Lists of indices, shuffles, and what shuffles do: the code's and the model's functions; one contract each.
-/
import Derived.Test.YtgkpjeheoinpiaaVecW
import Derived.Test.YtgkpjeheoinpiaaCpy
import Derived.Test.YtgkpjeheoinpiaaShM
namespace Go.Proofs.Ytgkpjeheoinpiaa.Wds
open Go.RowKit
set_option linter.unusedVariables false

theorem aiC_any (m : Nat) (x : Int) (gb : Nat) (w : World) (hm : m ≤ 4194304) (hc : w.cell? ⟨gb, 0, none⟩ = some (.int .i64 m)) :
    Calls Try.prog 46 #[.int .i64 x, .pointer (some ⟨gb, 0, none⟩)] w fun e w' => e = .returned (.bool (!decide (0 ≤ x ∧ x < m))) ∧ w = w' := by
  by_cases h0 : x < 0
  · rw [decide_eq_false (by omega)]
    go_enter Try.func46, Try.ntmps46
    go_wp2
    go_ret
    exact ⟨ret_bool (by simp), rfl⟩
  · have h1 : 0 ≤ x := by omega
    by_cases h2 : x < m
    · rw [decide_eq_true (And.intro h1 h2)]
      have H2 := Lib.hid h2
      go_enter Try.func46, Try.ntmps46
      go_wp2
      go_ret
      exact ⟨ret_bool (by simp; exact H2.out), rfl⟩
    · rw [decide_eq_false (by omega)]
      have h3 : (m : Int) ≤ x := by omega
      go_enter Try.func46, Try.ntmps46
      go_wp2
      go_ret
      exact ⟨ret_bool (by simp), rfl⟩
/-- The first number that is no index. -/
def badI (m : Nat) (zs : List Int) (e : Ending) : Prop :=
  (e = .returned (.int .i64 (-1)) ∧ ∀ j, j < zs.length → 0 ≤ zs.getD j 0 ∧ zs.getD j 0 < m) ∨ ∃ k : Nat, k < zs.length ∧ e = .returned (.int .i64 (k : Int)) ∧ ¬ (0 ≤ zs.getD k 0 ∧ zs.getD k 0 < m)
set_option maxHeartbeats 1000000 in
theorem idxI_any (m : Nat) (gb : Nat) (A : Option Addr) (n c : Nat) (zs : List Int) (B : Nat) (w : World) (hm : m ≤ 4194304) (hn : n ≤ 1048576) (h : Rd w B A n zs) (hc : w.cell? ⟨gb, 0, none⟩ = some (.int .i64 m)) :
    Calls Try.prog 52 #[.slice A n c, .func (.func 46) #[] #[.pointer (some ⟨gb, 0, none⟩)]] w fun e w' => badI m zs e ∧ Below w.heap.size w w' := by
  have H := Lib.hid h; clear h
  have HC := Lib.hid hc
  have HG := Lib.hid (World.block_lt_of_cell? w _ hc)
  clear hc
  go_enter Try.func52, Try.ntmps52
  go_wp2
  go_loopw [5, 8] (fun _ i wr => ∃ k : Nat, k ≤ n ∧ i = .int .i64 k ∧ Hid (∀ j, j < k → 0 ≤ zs.getD j 0 ∧ zs.getD j 0 < m) ∧ Below w.heap.size w wr) (fun _ i _ => n - (intOf i).toNat)
  case atStart => exact ⟨0, Nat.zero_le _, rfl, Lib.hid (fun j hj => absurd hj (Nat.not_lt_zero _)), Below.refl _ _⟩
  case round =>
    rename World => wr
    obtain ⟨k, hk, rfl, HA, hb⟩ := hrel
    by_cases hlt : k < n
    · obtain ⟨g, o, rfl, hg, c0⟩ := (H.out.below hb).at_ hlt
      have HL := Lib.hid (show k < zs.length by rw [H.out.len]; exact hlt)
      obtain ⟨x, hx⟩ : ∃ x, x = zs.getD k 0 := ⟨_, rfl⟩
      rw [← hx] at c0
      have C := Lib.hid (aiC_any m x gb wr hm ((hb.cell (p := ⟨gb, 0, none⟩) HG.out).trans HC.out))
      have HX := Lib.hid hx
      have HB := Lib.hid hb; clear hb hx
      have i1 : (0 : Int) ≤ (k : Int) := by omega
      have i2 : (k : Int) < (n : Int) := by omega
      by_cases hw : 0 ≤ x ∧ x < m
      · rw [decide_eq_true hw] at C
        have HW := Lib.hid hw; clear hw
        go_wp2_with fail
        refine C.out.mono ?_
        rintro e w1 ⟨rfl, rfl⟩
        go_wp2
        go_roundw
        case rel =>
          refine ⟨k + 1, by omega, by go_num, Lib.hid (fun j hj => ?_), HB.out⟩
          rcases Nat.lt_or_ge j k with h | h
          · exact HA.out j h
          · obtain rfl : j = k := by omega
            rw [← HX.out]; exact HW.out
        case measure => simp [intOf]; omega
      · rw [decide_eq_false hw] at C
        have HW := Lib.hid hw; clear hw
        go_wp2_with fail
        refine C.out.mono ?_
        rintro e w1 ⟨rfl, rfl⟩
        go_wp2
        go_ret
        exact ⟨.inr ⟨k, HL.out, rfl, by rw [← HX.out]; exact HW.out⟩, HB.out⟩
    · have hkn : k = n := by omega
      have HB := Lib.hid hb; clear hb
      subst hkn
      go_wp2
      go_ret
      exact ⟨.inl ⟨rfl, fun j hj => HA.out j (by rw [H.out.len] at hj; exact hj)⟩, HB.out⟩
theorem contI_any (m : Nat) (gb : Nat) (A : Option Addr) (n c : Nat) (zs : List Int) (B : Nat) (w : World) (hm : m ≤ 4194304) (hn : n ≤ 1048576) (h : Rd w B A n zs) (hc : w.cell? ⟨gb, 0, none⟩ = some (.int .i64 m)) :
    Calls Try.prog 45 #[.slice A n c, .func (.func 46) #[] #[.pointer (some ⟨gb, 0, none⟩)]] w (RetB (!Ln.idxs m zs) w) := by
  have C := Lib.hid (idxI_any m gb A n c zs B w hm hn h hc)
  obtain ⟨r, hr⟩ : ∃ z, z = Ln.idxs m zs := ⟨_, rfl⟩
  rw [← hr]
  have HR := Lib.hid hr
  clear h hr hc
  go_enter Try.func45, Try.ntmps45
  go_wp2_with fail
  refine C.out.mono ?_
  rintro e w1 ⟨(⟨rfl, ha⟩ | ⟨k, hk, rfl, hf⟩), hb1⟩
  · have hall : Ln.idxs m zs = true := by
      unfold Ln.idxs
      rw [List.all_eq_true]
      intro x hx
      obtain ⟨j, hj, rfl⟩ := List.getElem_of_mem hx
      have := ha j hj
      rw [List.getD_eq_getElem?_getD, List.getElem?_eq_getElem hj] at this
      exact decide_eq_true this
    obtain rfl : r = true := by rw [HR.out]; exact hall
    have HB1 := Lib.hid hb1; clear hb1 ha hall
    go_wp2
    go_ret
    exact ⟨rfl, HB1.out⟩
  · obtain rfl : r = false := by rw [HR.out]; exact Ln.all_not (k := k) hk (decide_eq_false hf)
    have HB1 := Lib.hid hb1; clear hb1 hf
    have k0 : (0 : Int) ≤ (k : Int) := by omega
    go_wp2
    go_ret
    exact ⟨ret_bool (by simp; try omega), HB1.out⟩
theorem areI_any (m : Nat) (A : Option Addr) (n c : Nat) (zs : List Int) (B : Nat) (w : World) (hm : m ≤ 4194304) (hn : n ≤ 1048576) (h : Rd w B A n zs) :
    Calls Try.prog 30 #[.slice A n c, .int .i64 m] w (RetB (Ln.idxs m zs) w) := by
  have hb0 : Below w.heap.size w (w.alloc (.cells #[.int .i64 m] 3)) := (Below.refl _ _).alloc (Nat.le_refl _) _
  have hcell : (w.alloc (.cells #[.int .i64 m] 3)).cell? ⟨w.heap.size, 0, none⟩ = some (.int .i64 m) := cell_of_row _ _ 0 _ _ (0, 0) (heap_alloc_new w _)
  have C := Lib.hid (contI_any m w.heap.size A n c zs B _ hm hn (h.below hb0) hcell)
  have HB0 := Lib.hid hb0
  clear h hb0 hcell
  generalize Ln.idxs m zs = r at C ⊢
  have hmf : ∀ (fn : Fn) (first cap : Array Value) (w : World), (Instr.makeFunc fn first cap).run Try.prog w = .ok (.func fn first cap) w := fun _ _ _ _ => rfl
  go_enter Try.func30, Try.ntmps30
  go_wp2_with fail
  refine C.out.mono ?_
  rintro e w1 ⟨rfl, hb1⟩
  have HB1 := Lib.hid (HB0.out.trans (hb1.mono HB0.out.size)); clear hb1
  go_wp2
  go_ret
  exact ⟨ret_bool (by simp), HB1.out⟩
end Go.Proofs.Ytgkpjeheoinpiaa.Wds
