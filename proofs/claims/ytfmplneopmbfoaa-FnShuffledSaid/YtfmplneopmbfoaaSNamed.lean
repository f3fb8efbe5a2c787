/-
  Named shuffles: the model's function, a theorem for each kind.
-/
import Derived.Test.YtfmplneopmbfoaaNamed
namespace Go.Proofs.Ytfmplneopmbfoaa.Wds
open Go.RowKit
set_option linter.unusedVariables false

set_option maxHeartbeats 2000000 in
set_option maxRecDepth 100000 in
theorem sNam_0 (b : Int) (m : Nat) (w : World) (hl : Ln.lanes (m : Int) = true) (hb : 0 ≤ b ∧ b < (m : Int)) :
    Calls Try.prog 77 #[.int .i64 0, .int .i64 m, .int .i64 b] w (Ret1 (Ln.namedL 0 m b) true w) := by
  obtain ⟨i0, hi0, hz0, hz1, hz2⟩ := info_parts A_info64
  have hn := Ln.lanes_cases hl
  have C1 := Lib.hid (fun W => sLanes_any (m : Int) W)
  rw [hl] at C1
  have C2 := Lib.hid (fun W => in_yes 0 0 5 W (by omega))
  have C3 := Lib.hid (fun W => in_yes b 0 ((m : Int) - 1) W (by omega))
  obtain ⟨b0, b1⟩ := hb
  have hm1 : (2 : Int) ≤ (m : Int) := by omega
  have hm2 : (m : Int) ≤ 16 := by omega
  have hm3 : (1 : Int) ≤ (m : Int) := by omega
  have hm4 : (0 : Int) ≤ (m : Int) - 1 := by omega
  have hmn : m ≤ 16 := by omega
  clear hl hn
  by_cases hb0 : 0 < b
  · have hb3 : decide (0 < b) = true := decide_eq_true hb0
    go_enter Try.func77, Try.ntmps77
    go_wp2_with fail
    refine (C1.out _).mono ?_
    rintro e w1 ⟨rfl, rfl⟩
    go_wp2_with fail
    refine (C2.out _).mono ?_
    rintro e w1 ⟨rfl, rfl⟩
    go_wp2_with fail
    refine (C3.out _).mono ?_
    rintro e w1 ⟨rfl, rfl⟩
    go_wp2_with fail
    go_loopw [8, 9] (fun v i wr => Pushes (fun j => Ln.nel 0 (m : Int) b j) m w v i wr) (fun _ i _ => m - (intOf i).toNat)
    case atStart => exact Pushes.start _ _ _
    case round =>
      obtain ⟨k, hk, rfl, hown, hb⟩ := hrel
      by_cases hlt : k < m
      · have HO := Lib.hid hown
        have HB := Lib.hid hb
        have hsz := hb.size
        have i2 : (k : Int) < (m : Int) := by omega
        have i3 : (0 : Int) ≤ (k : Int) := by omega
        clear hown hb
        go_wp2_with (at_builtin; refine wpList_push _ rfl _ _ rfl i0 Try.underlying25 hi0 hz0 hz1 hz2 _ _ _ _ _ rfl HO.out rfl (by omega) hsz ?_; intro v' w3 hown1 hb1; have HO1 := Lib.hid hown1; have HBB := Lib.hid hb1; clear hown1 hb1)
        go_roundw
        case rel => exact Pushes.step hlt HB.out _ (by unfold Ln.nel; rfl) HO1.out HBB.out
        case measure => simp [intOf]; omega
      · have hkn : k = m := by omega
        have HALL := Lib.hid (And.intro hown (And.intro hb hkn))
        have hk16 : k ≤ 1048576 := by omega
        clear hown hb hkn
        go_wp2
        go_ret2
        obtain ⟨hown, hb, rfl⟩ := HALL.out
        refine Ret1.of_row ?_ hk16 hb
        rw [Ln.namedL, Int.toNat_natCast]; exact hown
  · have hb3 : decide (0 < b) = false := decide_eq_false hb0
    go_enter Try.func77, Try.ntmps77
    go_wp2_with fail
    refine (C1.out _).mono ?_
    rintro e w1 ⟨rfl, rfl⟩
    go_wp2_with fail
    refine (C2.out _).mono ?_
    rintro e w1 ⟨rfl, rfl⟩
    go_wp2_with fail
    refine (C3.out _).mono ?_
    rintro e w1 ⟨rfl, rfl⟩
    go_wp2_with fail
    go_loopw [8, 9] (fun v i wr => Pushes (fun j => Ln.nel 0 (m : Int) b j) m w v i wr) (fun _ i _ => m - (intOf i).toNat)
    case atStart => exact Pushes.start _ _ _
    case round =>
      obtain ⟨k, hk, rfl, hown, hb⟩ := hrel
      by_cases hlt : k < m
      · have HO := Lib.hid hown
        have HB := Lib.hid hb
        have hsz := hb.size
        have i2 : (k : Int) < (m : Int) := by omega
        have i3 : (0 : Int) ≤ (k : Int) := by omega
        clear hown hb
        go_wp2_with (at_builtin; refine wpList_push _ rfl _ _ rfl i0 Try.underlying25 hi0 hz0 hz1 hz2 _ _ _ _ _ rfl HO.out rfl (by omega) hsz ?_; intro v' w3 hown1 hb1; have HO1 := Lib.hid hown1; have HBB := Lib.hid hb1; clear hown1 hb1)
        go_roundw
        case rel => exact Pushes.step hlt HB.out _ (by unfold Ln.nel; rfl) HO1.out HBB.out
        case measure => simp [intOf]; omega
      · have hkn : k = m := by omega
        have HALL := Lib.hid (And.intro hown (And.intro hb hkn))
        have hk16 : k ≤ 1048576 := by omega
        clear hown hb hkn
        go_wp2
        go_ret2
        obtain ⟨hown, hb, rfl⟩ := HALL.out
        refine Ret1.of_row ?_ hk16 hb
        rw [Ln.namedL, Int.toNat_natCast]; exact hown
set_option maxHeartbeats 2000000 in
set_option maxRecDepth 100000 in
theorem sNam_1 (m : Nat) (w : World) (hl : Ln.lanes (m : Int) = true) :
    Calls Try.prog 77 #[.int .i64 1, .int .i64 m, .int .i64 0] w (Ret1 (Ln.namedL 1 m 0) true w) := by
  obtain ⟨i0, hi0, hz0, hz1, hz2⟩ := info_parts A_info64
  have hn := Ln.lanes_cases hl
  have C1 := Lib.hid (fun W => sLanes_any (m : Int) W)
  rw [hl] at C1
  have C2 := Lib.hid (fun W => in_yes 1 0 5 W (by omega))
  have C3 := Lib.hid (fun W => in_yes 0 0 ((m : Int) - 1) W (by omega))
  have hm1 : (2 : Int) ≤ (m : Int) := by omega
  have hm2 : (m : Int) ≤ 16 := by omega
  have hm3 : (1 : Int) ≤ (m : Int) := by omega
  have hm4 : (0 : Int) ≤ (m : Int) - 1 := by omega
  have hmn : m ≤ 16 := by omega
  clear hl hn
  go_enter Try.func77, Try.ntmps77
  go_wp2_with fail
  refine (C1.out _).mono ?_
  rintro e w1 ⟨rfl, rfl⟩
  go_wp2_with fail
  refine (C2.out _).mono ?_
  rintro e w1 ⟨rfl, rfl⟩
  go_wp2_with fail
  refine (C3.out _).mono ?_
  rintro e w1 ⟨rfl, rfl⟩
  go_wp2_with fail
  go_loopw [8, 9] (fun v i wr => Pushes (fun j => Ln.nel 1 (m : Int) 0 j) m w v i wr) (fun _ i _ => m - (intOf i).toNat)
  case atStart => exact Pushes.start _ _ _
  case round =>
    obtain ⟨k, hk, rfl, hown, hb⟩ := hrel
    by_cases hlt : k < m
    · have HO := Lib.hid hown
      have HB := Lib.hid hb
      have hsz := hb.size
      have i2 : (k : Int) < (m : Int) := by omega
      have i3 : (0 : Int) ≤ (k : Int) := by omega
      clear hown hb
      go_wp2_with (at_builtin; refine wpList_push _ rfl _ _ rfl i0 Try.underlying25 hi0 hz0 hz1 hz2 _ _ _ _ _ rfl HO.out rfl (by omega) hsz ?_; intro v' w3 hown1 hb1; have HO1 := Lib.hid hown1; have HBB := Lib.hid hb1; clear hown1 hb1)
      go_roundw
      case rel => exact Pushes.step hlt HB.out _ (by unfold Ln.nel; simp; try omega) HO1.out HBB.out
      case measure => simp [intOf]; omega
    · have hkn : k = m := by omega
      have HALL := Lib.hid (And.intro hown (And.intro hb hkn))
      have hk16 : k ≤ 1048576 := by omega
      clear hown hb hkn
      go_wp2
      go_ret2
      obtain ⟨hown, hb, rfl⟩ := HALL.out
      refine Ret1.of_row ?_ hk16 hb
      rw [Ln.namedL, Int.toNat_natCast]; exact hown
set_option maxHeartbeats 2000000 in
set_option maxRecDepth 100000 in
theorem sNam_2 (b : Int) (m : Nat) (w : World) (hl : Ln.lanes (m : Int) = true) (hb : 0 ≤ b ∧ b < (m : Int)) :
    Calls Try.prog 77 #[.int .i64 2, .int .i64 m, .int .i64 b] w (Ret1 (Ln.namedL 2 m b) true w) := by
  obtain ⟨i0, hi0, hz0, hz1, hz2⟩ := info_parts A_info64
  have hn := Ln.lanes_cases hl
  have C1 := Lib.hid (fun W => sLanes_any (m : Int) W)
  rw [hl] at C1
  have C2 := Lib.hid (fun W => in_yes 2 0 5 W (by omega))
  have C3 := Lib.hid (fun W => in_yes b 0 ((m : Int) - 1) W (by omega))
  have HXX := Lib.hid (fun (k : Nat) (hk' : k < m) => xor64 (i := k) (b := b) hl ⟨by omega, by omega⟩ hb)
  obtain ⟨b0, b1⟩ := hb
  have hm1 : (2 : Int) ≤ (m : Int) := by omega
  have hm2 : (m : Int) ≤ 16 := by omega
  have hm3 : (1 : Int) ≤ (m : Int) := by omega
  have hm4 : (0 : Int) ≤ (m : Int) - 1 := by omega
  have hmn : m ≤ 16 := by omega
  clear hl hn
  by_cases hb0 : 0 < b
  · have hb3 : decide (0 < b) = true := decide_eq_true hb0
    go_enter Try.func77, Try.ntmps77
    go_wp2_with fail
    refine (C1.out _).mono ?_
    rintro e w1 ⟨rfl, rfl⟩
    go_wp2_with fail
    refine (C2.out _).mono ?_
    rintro e w1 ⟨rfl, rfl⟩
    go_wp2_with fail
    refine (C3.out _).mono ?_
    rintro e w1 ⟨rfl, rfl⟩
    go_wp2_with fail
    go_loopw [8, 9] (fun v i wr => Pushes (fun j => Ln.nel 2 (m : Int) b j) m w v i wr) (fun _ i _ => m - (intOf i).toNat)
    case atStart => exact Pushes.start _ _ _
    case round =>
      obtain ⟨k, hk, rfl, hown, hb⟩ := hrel
      by_cases hlt : k < m
      · have HO := Lib.hid hown
        have HB := Lib.hid hb
        have hsz := hb.size
        have i2 : (k : Int) < (m : Int) := by omega
        have i3 : (0 : Int) ≤ (k : Int) := by omega
        clear hown hb
        go_wp2_with (at_builtin; refine wpList_push _ rfl _ _ rfl i0 Try.underlying25 hi0 hz0 hz1 hz2 _ _ _ _ _ rfl HO.out rfl (by omega) hsz ?_; intro v' w3 hown1 hb1; have HO1 := Lib.hid hown1; have HBB := Lib.hid hb1; clear hown1 hb1)
        go_roundw
        case rel => exact Pushes.step hlt HB.out _ (by rw [HXX.out k hlt]; unfold Ln.nel; rfl) HO1.out HBB.out
        case measure => simp [intOf]; omega
      · have hkn : k = m := by omega
        have HALL := Lib.hid (And.intro hown (And.intro hb hkn))
        have hk16 : k ≤ 1048576 := by omega
        clear hown hb hkn
        go_wp2
        go_ret2
        obtain ⟨hown, hb, rfl⟩ := HALL.out
        refine Ret1.of_row ?_ hk16 hb
        rw [Ln.namedL, Int.toNat_natCast]; exact hown
  · have hb3 : decide (0 < b) = false := decide_eq_false hb0
    go_enter Try.func77, Try.ntmps77
    go_wp2_with fail
    refine (C1.out _).mono ?_
    rintro e w1 ⟨rfl, rfl⟩
    go_wp2_with fail
    refine (C2.out _).mono ?_
    rintro e w1 ⟨rfl, rfl⟩
    go_wp2_with fail
    refine (C3.out _).mono ?_
    rintro e w1 ⟨rfl, rfl⟩
    go_wp2_with fail
    go_loopw [8, 9] (fun v i wr => Pushes (fun j => Ln.nel 2 (m : Int) b j) m w v i wr) (fun _ i _ => m - (intOf i).toNat)
    case atStart => exact Pushes.start _ _ _
    case round =>
      obtain ⟨k, hk, rfl, hown, hb⟩ := hrel
      by_cases hlt : k < m
      · have HO := Lib.hid hown
        have HB := Lib.hid hb
        have hsz := hb.size
        have i2 : (k : Int) < (m : Int) := by omega
        have i3 : (0 : Int) ≤ (k : Int) := by omega
        clear hown hb
        go_wp2_with (at_builtin; refine wpList_push _ rfl _ _ rfl i0 Try.underlying25 hi0 hz0 hz1 hz2 _ _ _ _ _ rfl HO.out rfl (by omega) hsz ?_; intro v' w3 hown1 hb1; have HO1 := Lib.hid hown1; have HBB := Lib.hid hb1; clear hown1 hb1)
        go_roundw
        case rel => exact Pushes.step hlt HB.out _ (by rw [HXX.out k hlt]; unfold Ln.nel; rfl) HO1.out HBB.out
        case measure => simp [intOf]; omega
      · have hkn : k = m := by omega
        have HALL := Lib.hid (And.intro hown (And.intro hb hkn))
        have hk16 : k ≤ 1048576 := by omega
        clear hown hb hkn
        go_wp2
        go_ret2
        obtain ⟨hown, hb, rfl⟩ := HALL.out
        refine Ret1.of_row ?_ hk16 hb
        rw [Ln.namedL, Int.toNat_natCast]; exact hown
set_option maxHeartbeats 2000000 in
set_option maxRecDepth 100000 in
theorem sNam_5 (b : Int) (m : Nat) (w : World) (hl : Ln.lanes (m : Int) = true) (hb : 0 ≤ b ∧ b < (m : Int)) :
    Calls Try.prog 77 #[.int .i64 5, .int .i64 m, .int .i64 b] w (Ret1 (Ln.namedL 5 m b) true w) := by
  obtain ⟨i0, hi0, hz0, hz1, hz2⟩ := info_parts A_info64
  have hn := Ln.lanes_cases hl
  have C1 := Lib.hid (fun W => sLanes_any (m : Int) W)
  rw [hl] at C1
  have C2 := Lib.hid (fun W => in_yes 5 0 5 W (by omega))
  have C3 := Lib.hid (fun W => in_yes b 0 ((m : Int) - 1) W (by omega))
  obtain ⟨b0, b1⟩ := hb
  have hm1 : (2 : Int) ≤ (m : Int) := by omega
  have hm2 : (m : Int) ≤ 16 := by omega
  have hm3 : (1 : Int) ≤ (m : Int) := by omega
  have hm4 : (0 : Int) ≤ (m : Int) - 1 := by omega
  have hmn : m ≤ 16 := by omega
  clear hl hn
  by_cases hb0 : 0 < b
  · have hb3 : decide (0 < b) = true := decide_eq_true hb0
    go_enter Try.func77, Try.ntmps77
    go_wp2_with fail
    refine (C1.out _).mono ?_
    rintro e w1 ⟨rfl, rfl⟩
    go_wp2_with fail
    refine (C2.out _).mono ?_
    rintro e w1 ⟨rfl, rfl⟩
    go_wp2_with fail
    refine (C3.out _).mono ?_
    rintro e w1 ⟨rfl, rfl⟩
    go_wp2_with fail
    go_loopw [8, 9] (fun v i wr => Pushes (fun j => Ln.nel 5 (m : Int) b j) m w v i wr) (fun _ i _ => m - (intOf i).toNat)
    case atStart => exact Pushes.start _ _ _
    case round =>
      obtain ⟨k, hk, rfl, hown, hb⟩ := hrel
      by_cases hlt : k < m
      · have HO := Lib.hid hown
        have HB := Lib.hid hb
        have hsz := hb.size
        have i2 : (k : Int) < (m : Int) := by omega
        have i3 : (0 : Int) ≤ (k : Int) := by omega
        clear hown hb
        go_wp2_with (at_builtin; refine wpList_push _ rfl _ _ rfl i0 Try.underlying25 hi0 hz0 hz1 hz2 _ _ _ _ _ rfl HO.out rfl (by omega) hsz ?_; intro v' w3 hown1 hb1; have HO1 := Lib.hid hown1; have HBB := Lib.hid hb1; clear hown1 hb1)
        go_roundw
        case rel => exact Pushes.step hlt HB.out _ (by unfold Ln.nel; simp; try omega) HO1.out HBB.out
        case measure => simp [intOf]; omega
      · have hkn : k = m := by omega
        have HALL := Lib.hid (And.intro hown (And.intro hb hkn))
        have hk16 : k ≤ 1048576 := by omega
        clear hown hb hkn
        go_wp2
        go_ret2
        obtain ⟨hown, hb, rfl⟩ := HALL.out
        refine Ret1.of_row ?_ hk16 hb
        rw [Ln.namedL, Int.toNat_natCast]; exact hown
  · have hb3 : decide (0 < b) = false := decide_eq_false hb0
    go_enter Try.func77, Try.ntmps77
    go_wp2_with fail
    refine (C1.out _).mono ?_
    rintro e w1 ⟨rfl, rfl⟩
    go_wp2_with fail
    refine (C2.out _).mono ?_
    rintro e w1 ⟨rfl, rfl⟩
    go_wp2_with fail
    refine (C3.out _).mono ?_
    rintro e w1 ⟨rfl, rfl⟩
    go_wp2_with fail
    go_loopw [8, 9] (fun v i wr => Pushes (fun j => Ln.nel 5 (m : Int) b j) m w v i wr) (fun _ i _ => m - (intOf i).toNat)
    case atStart => exact Pushes.start _ _ _
    case round =>
      obtain ⟨k, hk, rfl, hown, hb⟩ := hrel
      by_cases hlt : k < m
      · have HO := Lib.hid hown
        have HB := Lib.hid hb
        have hsz := hb.size
        have i2 : (k : Int) < (m : Int) := by omega
        have i3 : (0 : Int) ≤ (k : Int) := by omega
        clear hown hb
        go_wp2_with (at_builtin; refine wpList_push _ rfl _ _ rfl i0 Try.underlying25 hi0 hz0 hz1 hz2 _ _ _ _ _ rfl HO.out rfl (by omega) hsz ?_; intro v' w3 hown1 hb1; have HO1 := Lib.hid hown1; have HBB := Lib.hid hb1; clear hown1 hb1)
        go_roundw
        case rel => exact Pushes.step hlt HB.out _ (by unfold Ln.nel; simp; try omega) HO1.out HBB.out
        case measure => simp [intOf]; omega
      · have hkn : k = m := by omega
        have HALL := Lib.hid (And.intro hown (And.intro hb hkn))
        have hk16 : k ≤ 1048576 := by omega
        clear hown hb hkn
        go_wp2
        go_ret2
        obtain ⟨hown, hb, rfl⟩ := HALL.out
        refine Ret1.of_row ?_ hk16 hb
        rw [Ln.namedL, Int.toNat_natCast]; exact hown
set_option maxHeartbeats 2000000 in
set_option maxRecDepth 100000 in
theorem sNam_3_2 (w : World) :
    Calls Try.prog 77 #[.int .i64 3, .int .i64 2, .int .i64 0] w (Ret1 (Ln.namedL 3 2 0) true w) := by
  obtain ⟨i0, hi0, hz0, hz1, hz2⟩ := info_parts A_info64
  have C1 := Lib.hid (fun W => sLanes_any 2 W)
  rw [show Ln.lanes 2 = true from by decide] at C1
  have C2 := Lib.hid (fun W => in_yes 3 0 5 W (by omega))
  have C3 := Lib.hid (fun W => in_yes 0 0 1 W (by omega))
  go_enter Try.func77, Try.ntmps77
  go_wp2_with fail
  refine (C1.out _).mono ?_
  rintro e w1 ⟨rfl, rfl⟩
  go_wp2_with fail
  refine (C2.out _).mono ?_
  rintro e w1 ⟨rfl, rfl⟩
  go_wp2_with fail
  refine (C3.out _).mono ?_
  rintro e w1 ⟨rfl, rfl⟩
  go_wp2_with fail
  go_loopw [8, 9] (fun v i wr => Pushes (fun j => Ln.nel 3 2 0 j) 2 w v i wr) (fun _ i _ => 2 - (intOf i).toNat)
  case atStart => exact Pushes.start _ _ _
  case round =>
    obtain ⟨k, hk, rfl, hown, hb⟩ := hrel
    by_cases hlt : k < 2
    · have HO := Lib.hid hown
      have HB := Lib.hid hb
      have hsz := hb.size
      have i2 : (k : Int) < 2 := by omega
      have i3 : (0 : Int) ≤ (k : Int) := by omega
      clear hown hb
      go_wp2_with (at_builtin; refine wpList_push _ rfl _ _ rfl i0 Try.underlying25 hi0 hz0 hz1 hz2 _ _ _ _ _ rfl HO.out rfl (by omega) hsz ?_; intro v' w3 hown1 hb1; have HO1 := Lib.hid hown1; have HBB := Lib.hid hb1; clear hown1 hb1)
      go_roundw
      case rel => exact Pushes.step hlt HB.out _ (by unfold Ln.nel; simp; try omega) HO1.out HBB.out
      case measure => simp [intOf]; omega
    · have hkn : k = 2 := by omega
      have HALL := Lib.hid (And.intro hown (And.intro hb hkn))
      have hk16 : k ≤ 1048576 := by omega
      clear hown hb hkn
      go_wp2
      go_ret2
      obtain ⟨hown, hb, rfl⟩ := HALL.out
      refine Ret1.of_row ?_ hk16 hb
      exact hown
set_option maxHeartbeats 2000000 in
set_option maxRecDepth 100000 in
theorem sNam_3_4 (w : World) :
    Calls Try.prog 77 #[.int .i64 3, .int .i64 4, .int .i64 0] w (Ret1 (Ln.namedL 3 4 0) true w) := by
  obtain ⟨i0, hi0, hz0, hz1, hz2⟩ := info_parts A_info64
  have C1 := Lib.hid (fun W => sLanes_any 4 W)
  rw [show Ln.lanes 4 = true from by decide] at C1
  have C2 := Lib.hid (fun W => in_yes 3 0 5 W (by omega))
  have C3 := Lib.hid (fun W => in_yes 0 0 3 W (by omega))
  go_enter Try.func77, Try.ntmps77
  go_wp2_with fail
  refine (C1.out _).mono ?_
  rintro e w1 ⟨rfl, rfl⟩
  go_wp2_with fail
  refine (C2.out _).mono ?_
  rintro e w1 ⟨rfl, rfl⟩
  go_wp2_with fail
  refine (C3.out _).mono ?_
  rintro e w1 ⟨rfl, rfl⟩
  go_wp2_with fail
  go_loopw [8, 9] (fun v i wr => Pushes (fun j => Ln.nel 3 4 0 j) 4 w v i wr) (fun _ i _ => 4 - (intOf i).toNat)
  case atStart => exact Pushes.start _ _ _
  case round =>
    obtain ⟨k, hk, rfl, hown, hb⟩ := hrel
    by_cases hlt : k < 4
    · have HO := Lib.hid hown
      have HB := Lib.hid hb
      have hsz := hb.size
      have i2 : (k : Int) < 4 := by omega
      have i3 : (0 : Int) ≤ (k : Int) := by omega
      clear hown hb
      go_wp2_with (at_builtin; refine wpList_push _ rfl _ _ rfl i0 Try.underlying25 hi0 hz0 hz1 hz2 _ _ _ _ _ rfl HO.out rfl (by omega) hsz ?_; intro v' w3 hown1 hb1; have HO1 := Lib.hid hown1; have HBB := Lib.hid hb1; clear hown1 hb1)
      go_roundw
      case rel => exact Pushes.step hlt HB.out _ (by unfold Ln.nel; simp; try omega) HO1.out HBB.out
      case measure => simp [intOf]; omega
    · have hkn : k = 4 := by omega
      have HALL := Lib.hid (And.intro hown (And.intro hb hkn))
      have hk16 : k ≤ 1048576 := by omega
      clear hown hb hkn
      go_wp2
      go_ret2
      obtain ⟨hown, hb, rfl⟩ := HALL.out
      refine Ret1.of_row ?_ hk16 hb
      exact hown
set_option maxHeartbeats 2000000 in
set_option maxRecDepth 100000 in
theorem sNam_3_8 (w : World) :
    Calls Try.prog 77 #[.int .i64 3, .int .i64 8, .int .i64 0] w (Ret1 (Ln.namedL 3 8 0) true w) := by
  obtain ⟨i0, hi0, hz0, hz1, hz2⟩ := info_parts A_info64
  have C1 := Lib.hid (fun W => sLanes_any 8 W)
  rw [show Ln.lanes 8 = true from by decide] at C1
  have C2 := Lib.hid (fun W => in_yes 3 0 5 W (by omega))
  have C3 := Lib.hid (fun W => in_yes 0 0 7 W (by omega))
  go_enter Try.func77, Try.ntmps77
  go_wp2_with fail
  refine (C1.out _).mono ?_
  rintro e w1 ⟨rfl, rfl⟩
  go_wp2_with fail
  refine (C2.out _).mono ?_
  rintro e w1 ⟨rfl, rfl⟩
  go_wp2_with fail
  refine (C3.out _).mono ?_
  rintro e w1 ⟨rfl, rfl⟩
  go_wp2_with fail
  go_loopw [8, 9] (fun v i wr => Pushes (fun j => Ln.nel 3 8 0 j) 8 w v i wr) (fun _ i _ => 8 - (intOf i).toNat)
  case atStart => exact Pushes.start _ _ _
  case round =>
    obtain ⟨k, hk, rfl, hown, hb⟩ := hrel
    by_cases hlt : k < 8
    · have HO := Lib.hid hown
      have HB := Lib.hid hb
      have hsz := hb.size
      have i2 : (k : Int) < 8 := by omega
      have i3 : (0 : Int) ≤ (k : Int) := by omega
      clear hown hb
      go_wp2_with (at_builtin; refine wpList_push _ rfl _ _ rfl i0 Try.underlying25 hi0 hz0 hz1 hz2 _ _ _ _ _ rfl HO.out rfl (by omega) hsz ?_; intro v' w3 hown1 hb1; have HO1 := Lib.hid hown1; have HBB := Lib.hid hb1; clear hown1 hb1)
      go_roundw
      case rel => exact Pushes.step hlt HB.out _ (by unfold Ln.nel; simp; try omega) HO1.out HBB.out
      case measure => simp [intOf]; omega
    · have hkn : k = 8 := by omega
      have HALL := Lib.hid (And.intro hown (And.intro hb hkn))
      have hk16 : k ≤ 1048576 := by omega
      clear hown hb hkn
      go_wp2
      go_ret2
      obtain ⟨hown, hb, rfl⟩ := HALL.out
      refine Ret1.of_row ?_ hk16 hb
      exact hown
set_option maxHeartbeats 2000000 in
set_option maxRecDepth 100000 in
theorem sNam_3_16 (w : World) :
    Calls Try.prog 77 #[.int .i64 3, .int .i64 16, .int .i64 0] w (Ret1 (Ln.namedL 3 16 0) true w) := by
  obtain ⟨i0, hi0, hz0, hz1, hz2⟩ := info_parts A_info64
  have C1 := Lib.hid (fun W => sLanes_any 16 W)
  rw [show Ln.lanes 16 = true from by decide] at C1
  have C2 := Lib.hid (fun W => in_yes 3 0 5 W (by omega))
  have C3 := Lib.hid (fun W => in_yes 0 0 15 W (by omega))
  go_enter Try.func77, Try.ntmps77
  go_wp2_with fail
  refine (C1.out _).mono ?_
  rintro e w1 ⟨rfl, rfl⟩
  go_wp2_with fail
  refine (C2.out _).mono ?_
  rintro e w1 ⟨rfl, rfl⟩
  go_wp2_with fail
  refine (C3.out _).mono ?_
  rintro e w1 ⟨rfl, rfl⟩
  go_wp2_with fail
  go_loopw [8, 9] (fun v i wr => Pushes (fun j => Ln.nel 3 16 0 j) 16 w v i wr) (fun _ i _ => 16 - (intOf i).toNat)
  case atStart => exact Pushes.start _ _ _
  case round =>
    obtain ⟨k, hk, rfl, hown, hb⟩ := hrel
    by_cases hlt : k < 16
    · have HO := Lib.hid hown
      have HB := Lib.hid hb
      have hsz := hb.size
      have i2 : (k : Int) < 16 := by omega
      have i3 : (0 : Int) ≤ (k : Int) := by omega
      clear hown hb
      go_wp2_with (at_builtin; refine wpList_push _ rfl _ _ rfl i0 Try.underlying25 hi0 hz0 hz1 hz2 _ _ _ _ _ rfl HO.out rfl (by omega) hsz ?_; intro v' w3 hown1 hb1; have HO1 := Lib.hid hown1; have HBB := Lib.hid hb1; clear hown1 hb1)
      go_roundw
      case rel => exact Pushes.step hlt HB.out _ (by unfold Ln.nel; simp; try omega) HO1.out HBB.out
      case measure => simp [intOf]; omega
    · have hkn : k = 16 := by omega
      have HALL := Lib.hid (And.intro hown (And.intro hb hkn))
      have hk16 : k ≤ 1048576 := by omega
      clear hown hb hkn
      go_wp2
      go_ret2
      obtain ⟨hown, hb, rfl⟩ := HALL.out
      refine Ret1.of_row ?_ hk16 hb
      exact hown
set_option maxHeartbeats 2000000 in
set_option maxRecDepth 100000 in
theorem sNam_4_2 (w : World) :
    Calls Try.prog 77 #[.int .i64 4, .int .i64 2, .int .i64 0] w (Ret1 (Ln.namedL 4 2 0) true w) := by
  obtain ⟨i0, hi0, hz0, hz1, hz2⟩ := info_parts A_info64
  have C1 := Lib.hid (fun W => sLanes_any 2 W)
  rw [show Ln.lanes 2 = true from by decide] at C1
  have C2 := Lib.hid (fun W => in_yes 4 0 5 W (by omega))
  have C3 := Lib.hid (fun W => in_yes 0 0 1 W (by omega))
  have HZ := Lib.hid (Ln.zip_ord (n := 2) (by decide))
  go_enter Try.func77, Try.ntmps77
  go_wp2_with fail
  refine (C1.out _).mono ?_
  rintro e w1 ⟨rfl, rfl⟩
  go_wp2_with fail
  refine (C2.out _).mono ?_
  rintro e w1 ⟨rfl, rfl⟩
  go_wp2_with fail
  refine (C3.out _).mono ?_
  rintro e w1 ⟨rfl, rfl⟩
  go_wp2_with fail
  go_loopw [8, 9] (fun v i wr => Pushes (fun j => Ln.nel 3 2 0 j) 2 w v i wr) (fun _ i _ => 2 - (intOf i).toNat)
  case atStart => exact Pushes.start _ _ _
  case round =>
    rename World => wr; obtain ⟨k, hk, rfl, hown, hb⟩ := hrel
    by_cases hlt : k < 2
    · have HO := Lib.hid hown
      have HB := Lib.hid hb
      have hsz := hb.size
      have i2 : (k : Int) < 2 := by omega
      have i3 : (0 : Int) ≤ (k : Int) := by omega
      clear hown hb
      go_wp2_with (at_builtin; refine wpList_push _ rfl _ _ rfl i0 Try.underlying25 hi0 hz0 hz1 hz2 _ _ _ _ _ rfl HO.out rfl (by omega) hsz ?_; intro v' w3 hown1 hb1; have HO1 := Lib.hid hown1; have HBB := Lib.hid hb1; clear hown1 hb1)
      go_roundw
      case rel => exact Pushes.step hlt HB.out _ (by unfold Ln.nel; simp; try omega) HO1.out HBB.out
      case measure => simp [intOf]; omega
    · have hkn : k = 2 := by omega
      have HALL := Lib.hid (And.intro hown (And.intro hb hkn))
      obtain ⟨Av, cv, rfl, _, hov⟩ := own_form hown; have HOV := Lib.hid hov; have HB := Lib.hid hb; clear hov
      have hk16 : k ≤ 1048576 := by omega
      clear hown hb hkn
      go_wp2_with fail
      refine (sInv4_any Av k cv (Ln.namedL 3 2 0) _ wr (by omega) (by have := HOV.out.rd; have hkk := HALL.out.2.2; subst hkk; exact this) HZ.out.1).mono ?_
      rintro e w4 ⟨A3, n3, c3, rfl, ho, hn3, hc3, hb4⟩
      rw [HZ.out.2] at ho
      have HF := Lib.hid (And.intro (ho.more HB.out.size (Nat.le_refl _)) (HB.out.trans (hb4.mono HB.out.size))); clear ho hb4
      go_wp2_with fail
      go_ret2
      exact ⟨A3, n3, c3, rfl, HF.out.1, hn3, HF.out.2⟩
set_option maxHeartbeats 2000000 in
set_option maxRecDepth 100000 in
theorem sNam_4_4 (w : World) :
    Calls Try.prog 77 #[.int .i64 4, .int .i64 4, .int .i64 0] w (Ret1 (Ln.namedL 4 4 0) true w) := by
  obtain ⟨i0, hi0, hz0, hz1, hz2⟩ := info_parts A_info64
  have C1 := Lib.hid (fun W => sLanes_any 4 W)
  rw [show Ln.lanes 4 = true from by decide] at C1
  have C2 := Lib.hid (fun W => in_yes 4 0 5 W (by omega))
  have C3 := Lib.hid (fun W => in_yes 0 0 3 W (by omega))
  have HZ := Lib.hid (Ln.zip_ord (n := 4) (by decide))
  go_enter Try.func77, Try.ntmps77
  go_wp2_with fail
  refine (C1.out _).mono ?_
  rintro e w1 ⟨rfl, rfl⟩
  go_wp2_with fail
  refine (C2.out _).mono ?_
  rintro e w1 ⟨rfl, rfl⟩
  go_wp2_with fail
  refine (C3.out _).mono ?_
  rintro e w1 ⟨rfl, rfl⟩
  go_wp2_with fail
  go_loopw [8, 9] (fun v i wr => Pushes (fun j => Ln.nel 3 4 0 j) 4 w v i wr) (fun _ i _ => 4 - (intOf i).toNat)
  case atStart => exact Pushes.start _ _ _
  case round =>
    rename World => wr; obtain ⟨k, hk, rfl, hown, hb⟩ := hrel
    by_cases hlt : k < 4
    · have HO := Lib.hid hown
      have HB := Lib.hid hb
      have hsz := hb.size
      have i2 : (k : Int) < 4 := by omega
      have i3 : (0 : Int) ≤ (k : Int) := by omega
      clear hown hb
      go_wp2_with (at_builtin; refine wpList_push _ rfl _ _ rfl i0 Try.underlying25 hi0 hz0 hz1 hz2 _ _ _ _ _ rfl HO.out rfl (by omega) hsz ?_; intro v' w3 hown1 hb1; have HO1 := Lib.hid hown1; have HBB := Lib.hid hb1; clear hown1 hb1)
      go_roundw
      case rel => exact Pushes.step hlt HB.out _ (by unfold Ln.nel; simp; try omega) HO1.out HBB.out
      case measure => simp [intOf]; omega
    · have hkn : k = 4 := by omega
      have HALL := Lib.hid (And.intro hown (And.intro hb hkn))
      obtain ⟨Av, cv, rfl, _, hov⟩ := own_form hown; have HOV := Lib.hid hov; have HB := Lib.hid hb; clear hov
      have hk16 : k ≤ 1048576 := by omega
      clear hown hb hkn
      go_wp2_with fail
      refine (sInv4_any Av k cv (Ln.namedL 3 4 0) _ wr (by omega) (by have := HOV.out.rd; have hkk := HALL.out.2.2; subst hkk; exact this) HZ.out.1).mono ?_
      rintro e w4 ⟨A3, n3, c3, rfl, ho, hn3, hc3, hb4⟩
      rw [HZ.out.2] at ho
      have HF := Lib.hid (And.intro (ho.more HB.out.size (Nat.le_refl _)) (HB.out.trans (hb4.mono HB.out.size))); clear ho hb4
      go_wp2_with fail
      go_ret2
      exact ⟨A3, n3, c3, rfl, HF.out.1, hn3, HF.out.2⟩
set_option maxHeartbeats 2000000 in
set_option maxRecDepth 100000 in
theorem sNam_4_8 (w : World) :
    Calls Try.prog 77 #[.int .i64 4, .int .i64 8, .int .i64 0] w (Ret1 (Ln.namedL 4 8 0) true w) := by
  obtain ⟨i0, hi0, hz0, hz1, hz2⟩ := info_parts A_info64
  have C1 := Lib.hid (fun W => sLanes_any 8 W)
  rw [show Ln.lanes 8 = true from by decide] at C1
  have C2 := Lib.hid (fun W => in_yes 4 0 5 W (by omega))
  have C3 := Lib.hid (fun W => in_yes 0 0 7 W (by omega))
  have HZ := Lib.hid (Ln.zip_ord (n := 8) (by decide))
  go_enter Try.func77, Try.ntmps77
  go_wp2_with fail
  refine (C1.out _).mono ?_
  rintro e w1 ⟨rfl, rfl⟩
  go_wp2_with fail
  refine (C2.out _).mono ?_
  rintro e w1 ⟨rfl, rfl⟩
  go_wp2_with fail
  refine (C3.out _).mono ?_
  rintro e w1 ⟨rfl, rfl⟩
  go_wp2_with fail
  go_loopw [8, 9] (fun v i wr => Pushes (fun j => Ln.nel 3 8 0 j) 8 w v i wr) (fun _ i _ => 8 - (intOf i).toNat)
  case atStart => exact Pushes.start _ _ _
  case round =>
    rename World => wr; obtain ⟨k, hk, rfl, hown, hb⟩ := hrel
    by_cases hlt : k < 8
    · have HO := Lib.hid hown
      have HB := Lib.hid hb
      have hsz := hb.size
      have i2 : (k : Int) < 8 := by omega
      have i3 : (0 : Int) ≤ (k : Int) := by omega
      clear hown hb
      go_wp2_with (at_builtin; refine wpList_push _ rfl _ _ rfl i0 Try.underlying25 hi0 hz0 hz1 hz2 _ _ _ _ _ rfl HO.out rfl (by omega) hsz ?_; intro v' w3 hown1 hb1; have HO1 := Lib.hid hown1; have HBB := Lib.hid hb1; clear hown1 hb1)
      go_roundw
      case rel => exact Pushes.step hlt HB.out _ (by unfold Ln.nel; simp; try omega) HO1.out HBB.out
      case measure => simp [intOf]; omega
    · have hkn : k = 8 := by omega
      have HALL := Lib.hid (And.intro hown (And.intro hb hkn))
      obtain ⟨Av, cv, rfl, _, hov⟩ := own_form hown; have HOV := Lib.hid hov; have HB := Lib.hid hb; clear hov
      have hk16 : k ≤ 1048576 := by omega
      clear hown hb hkn
      go_wp2_with fail
      refine (sInv4_any Av k cv (Ln.namedL 3 8 0) _ wr (by omega) (by have := HOV.out.rd; have hkk := HALL.out.2.2; subst hkk; exact this) HZ.out.1).mono ?_
      rintro e w4 ⟨A3, n3, c3, rfl, ho, hn3, hc3, hb4⟩
      rw [HZ.out.2] at ho
      have HF := Lib.hid (And.intro (ho.more HB.out.size (Nat.le_refl _)) (HB.out.trans (hb4.mono HB.out.size))); clear ho hb4
      go_wp2_with fail
      go_ret2
      exact ⟨A3, n3, c3, rfl, HF.out.1, hn3, HF.out.2⟩
set_option maxHeartbeats 2000000 in
set_option maxRecDepth 100000 in
theorem sNam_4_16 (w : World) :
    Calls Try.prog 77 #[.int .i64 4, .int .i64 16, .int .i64 0] w (Ret1 (Ln.namedL 4 16 0) true w) := by
  obtain ⟨i0, hi0, hz0, hz1, hz2⟩ := info_parts A_info64
  have C1 := Lib.hid (fun W => sLanes_any 16 W)
  rw [show Ln.lanes 16 = true from by decide] at C1
  have C2 := Lib.hid (fun W => in_yes 4 0 5 W (by omega))
  have C3 := Lib.hid (fun W => in_yes 0 0 15 W (by omega))
  have HZ := Lib.hid (Ln.zip_ord (n := 16) (by decide))
  go_enter Try.func77, Try.ntmps77
  go_wp2_with fail
  refine (C1.out _).mono ?_
  rintro e w1 ⟨rfl, rfl⟩
  go_wp2_with fail
  refine (C2.out _).mono ?_
  rintro e w1 ⟨rfl, rfl⟩
  go_wp2_with fail
  refine (C3.out _).mono ?_
  rintro e w1 ⟨rfl, rfl⟩
  go_wp2_with fail
  go_loopw [8, 9] (fun v i wr => Pushes (fun j => Ln.nel 3 16 0 j) 16 w v i wr) (fun _ i _ => 16 - (intOf i).toNat)
  case atStart => exact Pushes.start _ _ _
  case round =>
    rename World => wr; obtain ⟨k, hk, rfl, hown, hb⟩ := hrel
    by_cases hlt : k < 16
    · have HO := Lib.hid hown
      have HB := Lib.hid hb
      have hsz := hb.size
      have i2 : (k : Int) < 16 := by omega
      have i3 : (0 : Int) ≤ (k : Int) := by omega
      clear hown hb
      go_wp2_with (at_builtin; refine wpList_push _ rfl _ _ rfl i0 Try.underlying25 hi0 hz0 hz1 hz2 _ _ _ _ _ rfl HO.out rfl (by omega) hsz ?_; intro v' w3 hown1 hb1; have HO1 := Lib.hid hown1; have HBB := Lib.hid hb1; clear hown1 hb1)
      go_roundw
      case rel => exact Pushes.step hlt HB.out _ (by unfold Ln.nel; simp; try omega) HO1.out HBB.out
      case measure => simp [intOf]; omega
    · have hkn : k = 16 := by omega
      have HALL := Lib.hid (And.intro hown (And.intro hb hkn))
      obtain ⟨Av, cv, rfl, _, hov⟩ := own_form hown; have HOV := Lib.hid hov; have HB := Lib.hid hb; clear hov
      have hk16 : k ≤ 1048576 := by omega
      clear hown hb hkn
      go_wp2_with fail
      refine (sInv4_any Av k cv (Ln.namedL 3 16 0) _ wr (by omega) (by have := HOV.out.rd; have hkk := HALL.out.2.2; subst hkk; exact this) HZ.out.1).mono ?_
      rintro e w4 ⟨A3, n3, c3, rfl, ho, hn3, hc3, hb4⟩
      rw [HZ.out.2] at ho
      have HF := Lib.hid (And.intro (ho.more HB.out.size (Nat.le_refl _)) (HB.out.trans (hb4.mono HB.out.size))); clear ho hb4
      go_wp2_with fail
      go_ret2
      exact ⟨A3, n3, c3, rfl, HF.out.1, hn3, HF.out.2⟩
end Go.Proofs.Ytfmplneopmbfoaa.Wds
