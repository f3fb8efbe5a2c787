/-
  How many lanes are on, and the first of them: the code's and the model's functions; one contract each.
-/
import Derived.Test.YtmdoafkacglphaaVecW
import Derived.Test.YtmdoafkacglphaaPush
namespace Go.Proofs.Ytmdoafkacglphaa.Wds
open Go.RowKit
set_option linter.unusedVariables false

set_option maxHeartbeats 400000 in
theorem sCount_any (A : Option Addr) (n c : Nat) (zs : List Int) (B : Nat) (w : World) (hn : n ≤ 1048576) (hm : (zs.all fun z => z == 0 || z == 1) = true) (h : Rd w B A n zs) :
    Calls Try.prog 77 #[.slice A n c] w fun e w' => e = .returned (.int .i64 (Ln.cnt zs)) ∧ w = w' := by
  have H := Lib.hid h; clear h
  have HM := Lib.hid hm; clear hm
  go_enter Try.func77, Try.ntmps77
  go_wp2
  go_loop [3, 4] (fun s i => ∃ k : Nat, k ≤ n ∧ i = .int .i64 k ∧ s = .int .i64 (Ln.cnt (zs.take k))) (fun _ i => n - (intOf i).toNat)
  case atStart => exact ⟨0, Nat.zero_le _, rfl, rfl⟩
  case round =>
    obtain ⟨k, hk, rfl, rfl⟩ := hrel
    by_cases hlt : k < n
    · obtain ⟨g, o, rfl, hg, hc⟩ := H.out.at_ hlt
      have hl : k < zs.length := by rw [H.out.len]; exact hlt
      have b1 := Ln.cnt_bd zs HM.out k (by omega)
      have b2 := Ln.cnt_bd zs HM.out (k + 1) (by omega)
      have e := Ln.cnt_snoc zs k hl
      have b3 : -1 ≤ zs.getD k 0 ∧ zs.getD k 0 ≤ 2 := by
        rcases (show zs.getD k 0 = 0 ∨ zs.getD k 0 = 1 by
          have hm := HM.out
          simp only [List.all_eq_true, Bool.or_eq_true, beq_iff_eq] at hm
          rw [List.getD_eq_getElem?_getD, List.getElem?_eq_getElem hl]
          exact hm _ (List.getElem_mem hl)) with h | h <;> rw [h] <;> omega
      obtain ⟨z, hz⟩ : ∃ z, z = zs.getD k 0 := ⟨_, rfl⟩
      obtain ⟨s, hs⟩ : ∃ s, s = Ln.cnt (zs.take k) := ⟨_, rfl⟩
      rw [← hz, ← hs] at e
      rw [← hz] at hc b3
      rw [← hs] at b1
      rw [← hs]
      have HE := Lib.hid e; clear e hz hs b2 hl
      obtain ⟨s0, s1⟩ := b1
      obtain ⟨z0, z1⟩ := b3
      go_wp2
      go_round
      case rel => exact ⟨k + 1, by omega, by go_num, by rw [HE.out]⟩
      case measure => simp [intOf]; omega
    · have hkn : k = n := by omega
      have e : zs.take k = zs := List.take_of_length_le (by rw [H.out.len]; omega)
      rw [e]
      clear e hkn
      go_wp2
      go_ret
      exact ⟨rfl, rfl⟩
theorem msk_all {zs : List Int} (h : Ln.msk zs = true) : (zs.all fun z => z == 0 || z == 1) = true := by
  simp only [Ln.msk, Bool.and_eq_true] at h; exact h.2
theorem RetIB.no {w w' : World} (hb : Below w.heap.size w w') : RetIB 0 false w (.returned (.tuple #[.int .i64 0, .bool false])) w' := ⟨rfl, hb⟩
theorem sCountLanes_any (A : Option Addr) (n c : Nat) (zs : List Int) (B : Nat) (w : World) (hn : n ≤ 1048576) (h : Rd w B A n zs) :
    Calls Try.prog 41 #[.slice A n c] w (RetIB (Ln.count zs).1 (Ln.count zs).2 w) := by
  have c1 := sIsMask_any A n c zs B w hn h
  unfold Ln.count
  by_cases hm : Ln.msk zs = true
  · rw [hm] at c1 ⊢
    have C1 := Lib.hid c1
    have H := Lib.hid h
    have HM := Lib.hid hm
    clear c1 h hm
    go_enter Try.func41, Try.ntmps41
    go_wp2_with fail
    refine C1.out.mono ?_
    rintro e w' ⟨rfl, hb⟩
    have HB := Lib.hid hb; clear hb
    go_wp2_with fail
    refine (sCount_any _ _ _ zs B _ hn (msk_all HM.out) (H.out.below HB.out)).mono ?_
    rintro e w' ⟨rfl, rfl⟩
    go_wp2_with fail
    go_ret2
    exact ⟨rfl, HB.out⟩
  · have hm' : Ln.msk zs = false := by simpa using hm
    rw [hm'] at c1 ⊢
    have C1 := Lib.hid c1
    clear c1 h hm hm'
    go_enter Try.func41, Try.ntmps41
    go_wp2_with fail
    refine C1.out.mono ?_
    rintro e w' ⟨rfl, hb⟩
    have HB := Lib.hid hb; clear hb
    go_wp2_with fail
    go_ret2
    exact ⟨rfl, HB.out⟩
set_option maxHeartbeats 400000 in
theorem iCountLanes_any (A : Option Addr) (n c : Nat) (zs : List Int) (B : Nat) (w : World) (hn : n ≤ 1048576) (h : Rd w B A n zs) :
    Calls Try.prog 42 #[.slice A n c] w (RetIB (Ln.count zs).1 (Ln.count zs).2 w) := by
  have c1 := isMask_any A n c zs B w hn h
  unfold Ln.count
  by_cases hm : Ln.msk zs = true
  · rw [hm] at c1 ⊢
    have hall : (zs.all fun z => z == 0 || z == 1) = true := by simp only [Ln.msk, Bool.and_eq_true] at hm; exact hm.2
    have C1 := Lib.hid c1
    have H := Lib.hid h
    have HM := Lib.hid hall
    clear c1 h hm hall
    go_enter Try.func42, Try.ntmps42
    go_wp2_with fail
    refine C1.out.mono ?_
    rintro e w1 ⟨rfl, hb⟩
    have HB := Lib.hid hb; clear hb
    have H1 := Lib.hid (H.out.below HB.out)
    go_wp2_with fail
    go_loop [4, 12] (fun s i => ∃ k : Nat, k ≤ n ∧ i = .int .i64 k ∧ s = .int .i64 (Ln.cnt (zs.take k))) (fun _ i => n - (intOf i).toNat)
    case atStart => exact ⟨0, Nat.zero_le _, rfl, rfl⟩
    case round =>
      obtain ⟨k, hk, rfl, rfl⟩ := hrel
      by_cases hlt : k < n
      · obtain ⟨g, o, rfl, hg, hc⟩ := H1.out.at_ hlt
        have hl : k < zs.length := by rw [H.out.len]; exact hlt
        have b1 := Ln.cnt_bd zs HM.out k (by omega)
        have e := Ln.cnt_snoc zs k hl
        have b3 : -1 ≤ zs.getD k 0 ∧ zs.getD k 0 ≤ 2 := by
          rcases (show zs.getD k 0 = 0 ∨ zs.getD k 0 = 1 by
            have hm := HM.out
            simp only [List.all_eq_true, Bool.or_eq_true, beq_iff_eq] at hm
            rw [List.getD_eq_getElem?_getD, List.getElem?_eq_getElem hl]
            exact hm _ (List.getElem_mem hl)) with h | h <;> rw [h] <;> omega
        obtain ⟨z, hz⟩ : ∃ z, z = zs.getD k 0 := ⟨_, rfl⟩
        obtain ⟨s, hs⟩ : ∃ s, s = Ln.cnt (zs.take k) := ⟨_, rfl⟩
        rw [← hz, ← hs] at e
        rw [← hz] at hc b3
        rw [← hs] at b1
        rw [← hs]
        have HE := Lib.hid e; clear e hz hs hl
        obtain ⟨s0, s1⟩ := b1
        obtain ⟨z0, z1⟩ := b3
        go_wp2
        go_round
        case rel => exact ⟨k + 1, by omega, by go_num, by rw [HE.out]⟩
        case measure => simp [intOf]; omega
      · have hkn : k = n := by omega
        have e : zs.take k = zs := List.take_of_length_le (by rw [H.out.len]; omega)
        rw [e]
        clear e hkn
        go_wp2
        go_ret2
        exact ⟨rfl, HB.out⟩
  · have hm' : Ln.msk zs = false := by simpa using hm
    rw [hm'] at c1 ⊢
    have C1 := Lib.hid c1
    clear c1 h hm hm'
    go_enter Try.func42, Try.ntmps42
    go_wp2_with fail
    refine C1.out.mono ?_
    rintro e w' ⟨rfl, hb⟩
    have HB := Lib.hid hb; clear hb
    go_wp2_with fail
    go_ret2
    exact ⟨rfl, HB.out⟩
set_option maxHeartbeats 400000 in
theorem sFirstLane_any (A : Option Addr) (n c : Nat) (zs : List Int) (B : Nat) (w : World) (hn : n ≤ 1048576) (h : Rd w B A n zs) :
    Calls Try.prog 43 #[.slice A n c] w (RetIB (Ln.first zs).1 (Ln.first zs).2 w) := by
  have c1 := sIsMask_any A n c zs B w hn h
  unfold Ln.first
  by_cases hm : Ln.msk zs = true
  · have hz0 := Ln.cnt_zero hm
    rw [hm] at c1 ⊢
    have C1 := Lib.hid c1
    have H := Lib.hid h
    have HM := Lib.hid hm
    clear c1 h hm
    by_cases hp : Ln.pos zs < zs.length
    · rw [decide_eq_true hp]
      have hne : (Ln.cnt zs == 0) = false := by rw [beq_eq_false_iff_ne]; exact fun e => (hz0.1 e) hp
      have HP := Lib.hid hp
      clear hz0 hp
      go_enter Try.func43, Try.ntmps43
      go_wp2_with fail
      refine C1.out.mono ?_
      rintro e w1 ⟨rfl, hb⟩
      have HB := Lib.hid hb; clear hb
      have H1 := Lib.hid (H.out.below HB.out)
      go_wp2_with fail
      refine (sCount_any _ _ _ zs B _ hn (msk_all HM.out) H1.out).mono ?_
      rintro e w2 ⟨rfl, rfl⟩
      go_wp2_with fail
      go_loop [4] (fun i => ∃ k : Nat, k ≤ Ln.pos zs ∧ i = .int .i64 k) (fun i => n - (intOf i).toNat)
      case atStart => exact ⟨0, Nat.zero_le _, rfl⟩
      case round =>
        obtain ⟨k, hk, rfl⟩ := hrel
        have hln := H.out.len
        have hp := HP.out
        have hlt : k < n := by omega
        obtain ⟨g, o, rfl, hg, hc⟩ := H1.out.at_ hlt
        by_cases hkp : k < Ln.pos zs
        · have e : zs.getD k 0 = 0 := (Ln.msk_bit HM.out (by omega)).resolve_right (Ln.pos_ne hkp)
          rw [e] at hc
          have HX := Lib.hid hkp
          clear e hkp hln hp
          go_wp2
          go_round
          case rel => exact ⟨k + 1, HX.out, by go_num⟩
          case measure => simp [intOf]; omega
        · have hkk : Ln.pos zs = k := by omega
          have e : zs.getD k 0 = 1 := by rw [← hkk]; exact Ln.pos_at hp
          rw [e] at hc
          have HX := Lib.hid hkk
          clear e hkp hln hp hkk
          go_wp2
          go_ret2
          exact ⟨by rw [HX.out]; rfl, HB.out⟩
    · rw [decide_eq_false hp]
      have hne : Ln.cnt zs = 0 := hz0.2 hp
      have HP := Lib.hid hne
      clear hz0 hp hne
      go_enter Try.func43, Try.ntmps43
      go_wp2_with fail
      refine C1.out.mono ?_
      rintro e w1 ⟨rfl, hb⟩
      have HB := Lib.hid hb; clear hb
      have H1 := Lib.hid (H.out.below HB.out)
      go_wp2_with fail
      refine (sCount_any _ _ _ zs B _ hn (msk_all HM.out) H1.out).mono ?_
      rintro e w2 ⟨rfl, rfl⟩
      rw [HP.out]
      go_wp2_with fail
      go_ret2
      exact ⟨rfl, HB.out⟩
  · have hm' : Ln.msk zs = false := by simpa using hm
    rw [hm'] at c1 ⊢
    have C1 := Lib.hid c1
    clear c1 h hm hm'
    go_enter Try.func43, Try.ntmps43
    go_wp2_with fail
    refine C1.out.mono ?_
    rintro e w' ⟨rfl, hb⟩
    have HB := Lib.hid hb; clear hb
    go_wp2_with fail
    go_ret2
    exact ⟨rfl, HB.out⟩
set_option maxHeartbeats 400000 in
theorem index_any (A : Option Addr) (n c : Nat) (zs : List Int) (B : Nat) (w : World) (hn : n ≤ 1048576) (h : Rd w B A n zs) :
    Calls Try.prog 78 #[.slice A n c, .int .i64 1] w fun e w' => e = .returned (.int .i64 (Ln.idx zs)) ∧ w = w' := by
  have H := Lib.hid h; clear h
  go_enter Try.func78, Try.ntmps78
  go_wp2
  go_loop [8] (fun i => ∃ k : Nat, k ≤ n ∧ i = .int .i64 k ∧ k ≤ Ln.pos zs) (fun i => n - (intOf i).toNat)
  case atStart => exact ⟨0, Nat.zero_le _, rfl, Nat.zero_le _⟩
  case round =>
    obtain ⟨k, hk, rfl, hkp⟩ := hrel
    have hln := H.out.len
    by_cases hlt : k < n
    · obtain ⟨g, o, rfl, hg, hc⟩ := H.out.at_ hlt
      by_cases hx : k < Ln.pos zs
      · have hne : ((1 : Int) == zs.getD k 0) = false := by rw [beq_eq_false_iff_ne]; exact fun e => Ln.pos_ne hx e.symm
        obtain ⟨z, hz⟩ : ∃ z, z = zs.getD k 0 := ⟨_, rfl⟩
        rw [← hz] at hc hne
        have HX := Lib.hid hx
        clear hz hx hkp hln
        go_wp2
        go_round
        case rel => exact ⟨k + 1, by omega, by go_num, HX.out⟩
        case measure => simp [intOf]; omega
      · have hkk : Ln.pos zs = k := by omega
        have e : zs.getD k 0 = 1 := by rw [← hkk]; exact Ln.pos_at (by omega)
        rw [e] at hc
        have HX := Lib.hid (And.intro hkk (show Ln.pos zs < zs.length by omega))
        clear e hkk hx hkp hln
        go_wp2
        go_ret
        exact ⟨by rw [Ln.idx_yes HX.out.2, HX.out.1]; rfl, rfl⟩
    · have HX := Lib.hid (show ¬ Ln.pos zs < zs.length by omega)
      clear hkp hln
      go_wp2
      go_ret
      exact ⟨by rw [Ln.idx_no HX.out]; rfl, rfl⟩
theorem iFirstLane_any (A : Option Addr) (n c : Nat) (zs : List Int) (B : Nat) (w : World) (hn : n ≤ 1048576) (h : Rd w B A n zs) :
    Calls Try.prog 44 #[.slice A n c] w (RetIB (Ln.first zs).1 (Ln.first zs).2 w) := by
  have c1 := isMask_any A n c zs B w hn h
  have c0 := index_any A n c zs B w hn h
  have hln := h.len
  unfold Ln.first
  generalize Ln.msk zs = m at *
  by_cases hp : Ln.pos zs < zs.length
  · rw [decide_eq_true hp, Bool.and_true]
    rw [Ln.idx_yes hp] at c0
    have hp0 : (Ln.pos zs : Int) ≤ 1048576 := by omega
    generalize Ln.pos zs = q at *
    have C1 := Lib.hid c1
    have C0 := Lib.hid c0
    clear c1 c0 h hp hln
    cases m
    all_goals
      go_enter Try.func44, Try.ntmps44
      go_wp2_with fail
      refine C0.out.mono ?_
      rintro e w1 ⟨rfl, rfl⟩
      go_wp2_with fail
      refine C1.out.mono ?_
      rintro e w1 ⟨rfl, hb⟩
      have HB := Lib.hid hb; clear hb
      go_wp2_with fail
      go_ret2
      exact ⟨rfl, HB.out⟩
  · rw [decide_eq_false hp, Bool.and_false]
    rw [Ln.idx_no hp] at c0
    have C1 := Lib.hid c1
    have C0 := Lib.hid c0
    clear c1 c0 h hp hln
    cases m
    all_goals
      go_enter Try.func44, Try.ntmps44
      go_wp2_with fail
      refine C0.out.mono ?_
      rintro e w1 ⟨rfl, rfl⟩
      go_wp2_with fail
      refine C1.out.mono ?_
      rintro e w1 ⟨rfl, hb⟩
      have HB := Lib.hid hb; clear hb
      go_wp2_with fail
      go_ret2
      exact ⟨rfl, HB.out⟩
end Go.Proofs.Ytmdoafkacglphaa.Wds
