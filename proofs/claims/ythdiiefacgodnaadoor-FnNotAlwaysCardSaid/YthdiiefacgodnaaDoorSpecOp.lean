/-
  What the model's own table of texts, OpText and ReadOp return, over the translated program.
-/
import Derived.Test.YthdiiefacgodnaaDoorReadOp
import Derived.Test.YthdiiefacgodnaaDoorSpec
import Derived.Below
import Derived.ChangeOld
import Derived.Laws.Strings
import Derived.Outline
namespace Go.Proofs.YthdiiefacgodnaaDoor.Wds
open Go.RowKit
set_option linter.unusedVariables false

theorem tx_toList (k : Nat) : (Wd.tx k).toList = Wd.opTx.getD k [] := ByteArray.toList_mk _
theorem tx_cell (k : Nat) (hk : k < 18) : (#[Value.string { data := #[97, 100, 100] }, Value.string { data := #[115, 117, 98] }, Value.string { data := #[109, 117, 108] }, Value.string { data := #[97, 110, 100] }, Value.string { data := #[111, 114] }, Value.string { data := #[120, 111, 114] }, Value.string { data := #[109, 105, 110, 117] }, Value.string { data := #[109, 97, 120, 117] }, Value.string { data := #[109, 105, 110, 115] }, Value.string { data := #[109, 97, 120, 115] }, Value.string { data := #[97, 100, 100, 117] }, Value.string { data := #[97, 100, 100, 115] }, Value.string { data := #[115, 117, 98, 117] }, Value.string { data := #[115, 117, 98, 115] }, Value.string { data := #[97, 118, 103] }, Value.string { data := #[115, 104, 108] }, Value.string { data := #[115, 104, 114, 117] }, Value.string { data := #[115, 104, 114, 115] }] : Array Value)[k]? = some (.string (Wd.tx k)) := by
  rcases (show k = 0 ∨ k = 1 ∨ k = 2 ∨ k = 3 ∨ k = 4 ∨ k = 5 ∨ k = 6 ∨ k = 7 ∨ k = 8 ∨ k = 9 ∨ k = 10 ∨ k = 11 ∨ k = 12 ∨ k = 13 ∨ k = 14 ∨ k = 15 ∨ k = 16 ∨ k = 17 from by omega) with rfl | rfl | rfl | rfl | rfl | rfl | rfl | rfl | rfl | rfl | rfl | rfl | rfl | rfl | rfl | rfl | rfl | rfl <;> rfl

set_option maxRecDepth 100000 in
theorem specTexts_any (w : World) : Calls Tryd.prog 54 #[] w fun e w' => e = .returned (.slice (some ⟨w.heap.size, 0, none⟩) 18 18) ∧ Below w.heap.size w w' ∧ w'.heap.size = w.heap.size + 1 ∧ ∀ i, i < 18 → w'.cell? ⟨w.heap.size, i, none⟩ = some (.string (Wd.tx i)) := by
  go_enter Tryd.func54, Tryd.ntmps54
  go_wp2
  go_ret
  refine ⟨rfl, (Below.refl _ _).alloc (Nat.le_refl _) _, by simp, fun i hi => ?_⟩
  rw [World.cell?_alloc_new]
  exact tx_cell i hi
theorem specOpText_in (op : Int) (w : World) (h0 : 0 ≤ op) (h1 : op ≤ 17) : Calls Tryd.prog 28 #[.int .i64 op] w fun e w' => e = .returned (.tuple #[.string (Wd.tx op.toNat), .bool true]) ∧ Below w.heap.size w w' := by
  obtain ⟨k, rfl⟩ : ∃ k : Nat, op = k := ⟨op.toNat, by omega⟩
  have hk : k < 18 := by omega
  go_enter Tryd.func28, Tryd.ntmps28
  go_wp2_with (go_at_call 51; refine (sop_yes _ _ ⟨h0, h1⟩).mono ?_; rintro e w' ⟨rfl, rfl⟩)
  refine (specTexts_any _).mono ?_
  rintro e w1 ⟨rfl, bel, hs, hc⟩
  have hck := hc k hk
  have HC := Lib.hid hc; clear hc
  go_wp2
  go_ret2
  exact ⟨rfl, bel⟩
theorem specOpText_out (op : Int) (w : World) (h : ¬ (0 ≤ op ∧ op ≤ 17)) : Calls Tryd.prog 28 #[.int .i64 op] w fun e w' => e = .returned (.tuple #[.string { data := #[] }, .bool false]) ∧ w = w' := by
  go_enter Tryd.func28, Tryd.ntmps28
  go_wp2_with (go_at_call 51; refine (sop_no _ _ h).mono ?_; rintro e w' ⟨rfl, rfl⟩)
  go_ret2
  exact ⟨rfl, rfl⟩
theorem specRead_any (s : ByteArray) (w : World) (hm : s.size ≤ maxLen) : Calls Tryd.prog 55 #[.string s] w fun e w' => e = .returned (.tuple #[.int .i64 (Wd.rdN s.toList), .bool (Wd.rdB s.toList)]) ∧ Below w.heap.size w w' := by
  go_enter Tryd.func55, Tryd.ntmps55
  go_wp2_with fail
  refine (specTexts_any _).mono ?_
  rintro e w1 ⟨rfl, bel, hs, hc⟩
  have HB := Lib.hid bel; clear bel
  have HC := Lib.hid hc; clear hc
  go_wp2
  go_loop [5] (fun i => ∃ k : Nat, k ≤ 18 ∧ i = .int .i64 k ∧ Hid (∀ j, j < k → Wd.opTx.getD j [] ≠ s.toList)) (fun i => 18 - (intOf i).toNat)
  case atStart => exact ⟨0, Nat.zero_le _, rfl, Lib.hid (fun j hj => by omega)⟩
  case round =>
    obtain ⟨k, hk, rfl, hn⟩ := hrel
    by_cases hk8 : k < 18
    · have hck := HC.out k hk8
      have htl := tx_toList k
      obtain ⟨t, ht⟩ : ∃ t, t = Wd.tx k := ⟨_, rfl⟩
      rw [← ht] at hck htl
      clear ht
      by_cases he : t.toList = s.toList
      · have hr := Wd.rd_hit (l := s.toList) (k := k) hk8 (by rw [← htl]; exact he) hn.out
        have hb : (t.toList == s.toList) = true := by rw [he]; exact beq_self_eq_true _
        clear he htl
        have HR := Lib.hid hr; clear hr
        go_wp2
        go_ret2
        exact ⟨by rw [HR.out.1, HR.out.2]; rfl, HB.out⟩
      · have HN : Hid (∀ j, j < k + 1 → Wd.opTx.getD j [] ≠ s.toList) := Lib.hid (fun j hj => by
          by_cases h : j < k
          · exact hn.out j h
          · obtain rfl : j = k := by omega
            rw [← htl]; exact he)
        have hb : (t.toList == s.toList) = false := by rw [beq_eq_false_iff_ne]; exact he
        clear he htl
        go_wp2
        go_round
        case rel => exact ⟨k + 1, by omega, by simp, HN⟩
        case measure => simp [intOf]; omega
    · obtain rfl : k = 18 := by omega
      have hr := Wd.rd_miss (l := s.toList) hn.out
      have HR := Lib.hid hr; clear hr
      go_wp2
      go_ret2
      exact ⟨by rw [HR.out.1, HR.out.2]; rfl, HB.out⟩
theorem specReadOp_any (s : ByteArray) (w : World) (hm : s.size ≤ maxLen) : Calls Tryd.prog 29 #[.string s] w fun e w' => e = .returned (.tuple #[.int .i64 (Wd.rdN s.toList), .bool (Wd.rdB s.toList)]) ∧ Below w.heap.size w w' := by
  go_enter Tryd.func29, Tryd.ntmps29
  go_wp2_with fail
  refine (specRead_any _ _ hm).mono ?_
  rintro e w1 ⟨rfl, bel⟩
  go_wp2
  go_ret2
  exact ⟨rfl, bel⟩
end Go.Proofs.YthdiiefacgodnaaDoor.Wds
