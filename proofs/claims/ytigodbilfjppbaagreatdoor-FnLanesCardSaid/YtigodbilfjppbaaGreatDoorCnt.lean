/-
  How many lanes are on, and the first of them: the code's and the model's functions; one contract each.
-/
import Derived.Test.YtigodbilfjppbaaGreatDoorVecW
import Derived.Test.YtigodbilfjppbaaGreatDoorPush
namespace Go.Proofs.YtigodbilfjppbaaGreatDoor.Wds
open Go.RowKit
set_option linter.unusedVariables false

set_option maxHeartbeats 400000 in
theorem iCountLanes_any (A : Option Addr) (n c : Nat) (zs : List Int) (B : Nat) (w : World) (hn : n ≤ 1048576) (h : Rd w B A n zs) :
    Calls Tryz.prog 16 #[.slice A n c] w (RetIB (Ln.count zs).1 (Ln.count zs).2 w) := by
  have c1 := isMask_any A n c zs B w hn h
  unfold Ln.count
  by_cases hm : Ln.msk zs = true
  · rw [hm] at c1 ⊢
    have hall : (zs.all fun z => z == 0 || z == 1) = true := by simp only [Ln.msk, Bool.and_eq_true] at hm; exact hm.2
    have C1 := Lib.hid c1
    have H := Lib.hid h
    have HM := Lib.hid hall
    clear c1 h hm hall
    go_enter Tryz.func16, Tryz.ntmps16
    go_wp2_with fail
    refine C1.out.mono ?_
    rintro e w1 ⟨rfl, hb⟩
    have HB := Lib.hid hb; clear hb
    have H1 := Lib.hid (H.out.below HB.out)
    go_wp2_with fail
    go_loop [4, 12] (fun s i => ∃ k : Nat, k ≤ n ∧ i = .int .i64 k ∧ s = .int .i64 (Ln.cnt (zs.take k))) (fun _ i => n - (intOf i).toNat)
    case atStart => exact ⟨0, Nat.zero_le _, rfl, rfl⟩
    case round =>
      obtain ⟨k, hk, rfl, rfl⟩ := hrel
      by_cases hlt : k < n
      · obtain ⟨g, o, rfl, hg, hc⟩ := H1.out.at_ hlt
        have hl : k < zs.length := by rw [H.out.len]; exact hlt
        have b1 := Ln.cnt_bd zs HM.out k (by omega)
        have e := Ln.cnt_snoc zs k hl
        have b3 : -1 ≤ zs.getD k 0 ∧ zs.getD k 0 ≤ 2 := by
          rcases (show zs.getD k 0 = 0 ∨ zs.getD k 0 = 1 by
            have hm := HM.out
            simp only [List.all_eq_true, Bool.or_eq_true, beq_iff_eq] at hm
            rw [List.getD_eq_getElem?_getD, List.getElem?_eq_getElem hl]
            exact hm _ (List.getElem_mem hl)) with h | h <;> rw [h] <;> omega
        obtain ⟨z, hz⟩ : ∃ z, z = zs.getD k 0 := ⟨_, rfl⟩
        obtain ⟨s, hs⟩ : ∃ s, s = Ln.cnt (zs.take k) := ⟨_, rfl⟩
        rw [← hz, ← hs] at e
        rw [← hz] at hc b3
        rw [← hs] at b1
        rw [← hs]
        have HE := Lib.hid e; clear e hz hs hl
        obtain ⟨s0, s1⟩ := b1
        obtain ⟨z0, z1⟩ := b3
        go_wp2
        go_round
        case rel => exact ⟨k + 1, by omega, by go_num, by rw [HE.out]⟩
        case measure => simp [intOf]; omega
      · have hkn : k = n := by omega
        have e : zs.take k = zs := List.take_of_length_le (by rw [H.out.len]; omega)
        rw [e]
        clear e hkn
        go_wp2
        go_ret2
        exact ⟨rfl, HB.out⟩
  · have hm' : Ln.msk zs = false := by simpa using hm
    rw [hm'] at c1 ⊢
    have C1 := Lib.hid c1
    clear c1 h hm hm'
    go_enter Tryz.func16, Tryz.ntmps16
    go_wp2_with fail
    refine C1.out.mono ?_
    rintro e w' ⟨rfl, hb⟩
    have HB := Lib.hid hb; clear hb
    go_wp2_with fail
    go_ret2
    exact ⟨rfl, HB.out⟩
set_option maxHeartbeats 400000 in
theorem index_any (A : Option Addr) (n c : Nat) (zs : List Int) (B : Nat) (w : World) (hn : n ≤ 1048576) (h : Rd w B A n zs) :
    Calls Tryz.prog 42 #[.slice A n c, .int .i64 1] w fun e w' => e = .returned (.int .i64 (Ln.idx zs)) ∧ w = w' := by
  have H := Lib.hid h; clear h
  go_enter Tryz.func42, Tryz.ntmps42
  go_wp2
  go_loop [8] (fun i => ∃ k : Nat, k ≤ n ∧ i = .int .i64 k ∧ k ≤ Ln.pos zs) (fun i => n - (intOf i).toNat)
  case atStart => exact ⟨0, Nat.zero_le _, rfl, Nat.zero_le _⟩
  case round =>
    obtain ⟨k, hk, rfl, hkp⟩ := hrel
    have hln := H.out.len
    by_cases hlt : k < n
    · obtain ⟨g, o, rfl, hg, hc⟩ := H.out.at_ hlt
      by_cases hx : k < Ln.pos zs
      · have hne : ((1 : Int) == zs.getD k 0) = false := by rw [beq_eq_false_iff_ne]; exact fun e => Ln.pos_ne hx e.symm
        obtain ⟨z, hz⟩ : ∃ z, z = zs.getD k 0 := ⟨_, rfl⟩
        rw [← hz] at hc hne
        have HX := Lib.hid hx
        clear hz hx hkp hln
        go_wp2
        go_round
        case rel => exact ⟨k + 1, by omega, by go_num, HX.out⟩
        case measure => simp [intOf]; omega
      · have hkk : Ln.pos zs = k := by omega
        have e : zs.getD k 0 = 1 := by rw [← hkk]; exact Ln.pos_at (by omega)
        rw [e] at hc
        have HX := Lib.hid (And.intro hkk (show Ln.pos zs < zs.length by omega))
        clear e hkk hx hkp hln
        go_wp2
        go_ret
        exact ⟨by rw [Ln.idx_yes HX.out.2, HX.out.1]; rfl, rfl⟩
    · have HX := Lib.hid (show ¬ Ln.pos zs < zs.length by omega)
      clear hkp hln
      go_wp2
      go_ret
      exact ⟨by rw [Ln.idx_no HX.out]; rfl, rfl⟩
theorem iFirstLane_any (A : Option Addr) (n c : Nat) (zs : List Int) (B : Nat) (w : World) (hn : n ≤ 1048576) (h : Rd w B A n zs) :
    Calls Tryz.prog 17 #[.slice A n c] w (RetIB (Ln.first zs).1 (Ln.first zs).2 w) := by
  have c1 := isMask_any A n c zs B w hn h
  have c0 := index_any A n c zs B w hn h
  have hln := h.len
  unfold Ln.first
  generalize Ln.msk zs = m at *
  by_cases hp : Ln.pos zs < zs.length
  · rw [decide_eq_true hp, Bool.and_true]
    rw [Ln.idx_yes hp] at c0
    have hp0 : (Ln.pos zs : Int) ≤ 1048576 := by omega
    generalize Ln.pos zs = q at *
    have C1 := Lib.hid c1
    have C0 := Lib.hid c0
    clear c1 c0 h hp hln
    cases m
    all_goals
      go_enter Tryz.func17, Tryz.ntmps17
      go_wp2_with fail
      refine C0.out.mono ?_
      rintro e w1 ⟨rfl, rfl⟩
      go_wp2_with fail
      refine C1.out.mono ?_
      rintro e w1 ⟨rfl, hb⟩
      have HB := Lib.hid hb; clear hb
      go_wp2_with fail
      go_ret2
      exact ⟨rfl, HB.out⟩
  · rw [decide_eq_false hp, Bool.and_false]
    rw [Ln.idx_no hp] at c0
    have C1 := Lib.hid c1
    have C0 := Lib.hid c0
    clear c1 c0 h hp hln
    cases m
    all_goals
      go_enter Tryz.func17, Tryz.ntmps17
      go_wp2_with fail
      refine C0.out.mono ?_
      rintro e w1 ⟨rfl, rfl⟩
      go_wp2_with fail
      refine C1.out.mono ?_
      rintro e w1 ⟨rfl, hb⟩
      have HB := Lib.hid hb; clear hb
      go_wp2_with fail
      go_ret2
      exact ⟨rfl, HB.out⟩
end Go.Proofs.YtigodbilfjppbaaGreatDoor.Wds
