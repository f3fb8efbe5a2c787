/-
  Rows with lanes exchanged at a distance: the code's function and its helpers; one contract each.
-/
import Derived.Test.YtokdddkbpmcfgaaDoorPushR
import Derived.Test.YtokdddkbpmcfgaaDoorTsM
import Derived.Test.YtokdddkbpmcfgaaDoorBits
import Derived.Test.YtokdddkbpmcfgaaDoorWords
namespace Go.Proofs.YtokdddkbpmcfgaaDoor.Wds
open Go.RowKit
set_option linter.unusedVariables false
theorem and64 (k f : Nat) (hk : k < 65536) (hf : f < 65536) : bits .and .i64 (k : Int) (f : Int) = ((k &&& f : Nat) : Int) := by
  have := (Bts.three_i64 (k : Int) (f : Int) (by omega) (by omega) (by omega) (by omega)).1
  rw [Int.toNat_natCast, Int.toNat_natCast] at this
  exact this
set_option maxHeartbeats 1000000 in
theorem lower_any (n f : Nat) (w : World) (hn : n ≤ 16) (hf : f ≤ 16) :
    Calls Tryd.prog 41 #[.int .i64 n, .int .i64 f] w (RetL (Ln.low n f) w) := by
  obtain ⟨i0, hi, hz0, hz1, hz2⟩ := info_parts A_info64
  have q1 : (n : Int) / 2 = ((n / 2 : Nat) : Int) := by omega
  obtain ⟨c, hc⟩ : ∃ c, c = n / 2 := ⟨_, rfl⟩
  rw [← hc] at q1
  have hc2 : c ≤ 8 := by omega
  have q2 : (0 : Int) ≤ (n : Int) := by omega
  clear hc
  go_enter Tryd.func41, Tryd.ntmps41
  go_wp2_with (refine wpList_make_own _ rfl _ _ _ rfl w.heap.size 2 i0 (.int .i64 0) 1 Tryd.underlying25 hi hz0 hz1 _ _ _ c rfl rfl rfl (by rw [hz2]; omega) (by unfold maxLen; omega) (Nat.le_refl _) ?_; intro w1 hown1 hg1; have HO1 := Lib.hid hown1; have HB1 := Lib.hid ((Below.refl w.heap.size w).grown hg1 (Nat.le_refl _) (fun r hr => by cases hr)); clear hown1 hg1)
  go_loopw [5, 11] (fun v i wr => ∃ k : Nat, k ≤ n ∧ i = .int .i64 k ∧ wr.ownsRow w.heap.size 2 1 v (Ln.low k f).length ((Ln.low k f).map (Value.int .i64)) ∧ Below w.heap.size w wr) (fun _ i _ => n - (intOf i).toNat)
  case atStart => exact ⟨0, Nat.zero_le _, rfl, HO1.out, HB1.out⟩
  case round =>
    obtain ⟨k, hk, rfl, hown, hb⟩ := hrel
    by_cases hlt : k < n
    · have ha := and64 k f (by omega) (by omega)
      have hs := Ln.low_succ k f
      have hll := Ln.low_len k f
      have HO := Lib.hid hown
      have HB := Lib.hid hb
      have hsz := hb.size
      obtain ⟨q, hq⟩ : ∃ q : Nat, q = k &&& f := ⟨_, rfl⟩
      rw [← hq] at ha hs
      have i1 : (0 : Int) ≤ (k : Int) := by omega
      have i2 : (k : Int) < (n : Int) := by omega
      by_cases h0 : q = 0
      · rw [if_pos h0] at hs
        subst h0
        have e1 : (((0 : Nat) : Int) == 0) = true := by simp
        have HS := Lib.hid hs
        clear hs hq hown hb
        go_wp2_with (at_builtin; refine wpList_push _ rfl _ _ rfl i0 Tryd.underlying25 hi hz0 hz1 hz2 _ _ _ _ _ rfl HO.out rfl (by omega) hsz ?_; intro v' w3 hown1 hb1; have HO3 := Lib.hid hown1; have HBB := Lib.hid hb1; clear hown1 hb1)
        go_roundw
        case rel =>
          refine ⟨k + 1, by omega, by go_num, ?_, HB.out.trans HBB.out⟩
          rw [HS.out, List.length_append]
          exact HO3.out
        case measure => simp [intOf]; omega
      · rw [if_neg h0, List.append_nil] at hs
        have e1 : ((q : Int) == 0) = false := by simp; exact h0
        have HS := Lib.hid hs
        clear hs hq hown hb
        go_wp2
        go_roundw
        case rel =>
          refine ⟨k + 1, by omega, by go_num, ?_, HB.out⟩
          rw [HS.out]
          exact HO.out
        case measure => simp [intOf]; omega
    · have hkn : k = n := by omega
      subst hkn
      have HF := Lib.hid (And.intro hown hb); clear hown hb
      have hll := Ln.low_len k f
      go_wp2
      go_ret
      exact RetL.of_row HF.out.1 (by omega) HF.out.2
end Go.Proofs.YtokdddkbpmcfgaaDoor.Wds
