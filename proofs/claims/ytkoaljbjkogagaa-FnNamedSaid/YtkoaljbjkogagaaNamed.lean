/-
  Named shuffles: the code's and the model's functions; one contract each.
-/
import Derived.Test.YtkoaljbjkogagaaInv
import Derived.Test.YtkoaljbjkogagaaBits
namespace Go.Proofs.Ytkoaljbjkogagaa.Wds
open Go.RowKit
set_option linter.unusedVariables false

theorem ret_wordN {k : IntKind} {a b : Int} {c : Bool} (h : a = b) : Ending.returned (.tuple #[.int k a, .bool c]) = .returned (.tuple #[.int k b, .bool c]) := by rw [h]
theorem xor64 {n i b : Int} (h : Ln.lanes n = true) (hi : 0 ≤ i ∧ i < n) (hb : 0 ≤ b ∧ b < n) : bits .xor .i64 i b = ((i.toNat ^^^ b.toNat : Nat) : Int) := by
  have := Ln.lanes_cases h
  exact (Bts.three_i64 i b hi.1 (by omega) hb.1 (by omega)).2.2
set_option maxHeartbeats 1000000 in
set_option maxRecDepth 100000 in
theorem nElem_yes (kind n b i : Int) (w : World) (hl : Ln.lanes n = true) (hk : 0 ≤ kind ∧ kind ≤ 5) (hb : 0 ≤ b ∧ b < n) (hi : 0 ≤ i ∧ i < n) (hz : ¬ (0 < b ∧ (kind = 1 ∨ kind = 3 ∨ kind = 4))) :
    Calls Try.prog 17 #[.int .i64 kind, .int .i64 n, .int .i64 b, .int .i64 i] w fun e w' => e = .returned (.tuple #[.int .i64 (Ln.nel kind n b i), .bool true]) ∧ Below w.heap.size w w' := by
  have HX := Lib.hid (xor64 hl hi hb)
  have hn := Ln.lanes_cases hl
  obtain ⟨b0, b1⟩ := hb
  obtain ⟨i0, i1⟩ := hi
  have hkc : kind = 0 ∨ kind = 1 ∨ kind = 2 ∨ kind = 3 ∨ kind = 4 ∨ kind = 5 := by omega
  clear hl
  rcases hkc with rfl | rfl | rfl | rfl | rfl | rfl
  · clear hz hk
    rcases hn with rfl | rfl | rfl | rfl
    all_goals
      go_enter Try.func17, Try.ntmps17
      go_wp2
      go_ret2
      exact ⟨ret_wordN (by unfold Ln.nel; rfl), Below.refl _ _⟩
  · have hb0 : b = 0 := by omega
    subst hb0
    clear hz hk HX
    rcases hn with rfl | rfl | rfl | rfl
    all_goals
      go_enter Try.func17, Try.ntmps17
      go_wp2
      go_ret2
      exact ⟨ret_wordN (by unfold Ln.nel; simp; try omega), Below.refl _ _⟩
  · clear hz hk
    rcases hn with rfl | rfl | rfl | rfl
    all_goals
      go_enter Try.func17, Try.ntmps17
      go_wp2
      go_ret2
      exact ⟨ret_wordN (by rw [HX.out]; unfold Ln.nel; rfl), Below.refl _ _⟩
  · have hb0 : b = 0 := by omega
    subst hb0
    clear hz hk HX
    rcases hn with rfl | rfl | rfl | rfl
    all_goals
      go_enter Try.func17, Try.ntmps17
      go_wp2
      go_ret2
      exact ⟨ret_wordN (by unfold Ln.nel; simp; try omega), Below.refl _ _⟩
  · have hb0 : b = 0 := by omega
    subst hb0
    clear hz hk HX
    rcases hn with rfl | rfl | rfl | rfl
    all_goals
      go_enter Try.func17, Try.ntmps17
      go_wp2
      go_quiet (fail)
      go_wp2
      go_ret2
      exact ⟨ret_wordN (by unfold Ln.nel; simp; try omega), below_drewN (Below.refl _ _) _⟩
  · clear hz hk HX
    rcases hn with rfl | rfl | rfl | rfl
    all_goals
      go_enter Try.func17, Try.ntmps17
      go_wp2
      go_ret2
      exact ⟨ret_wordN (by unfold Ln.nel; simp; try omega), Below.refl _ _⟩
/-- A number and no are returned. -/
def NoInt (w : World) (e : Ending) (w' : World) : Prop := ∃ v : Int, e = .returned (.tuple #[.int .i64 v, .bool false]) ∧ Below w.heap.size w w'
set_option maxHeartbeats 1000000 in
set_option maxRecDepth 100000 in
theorem nElem_no (kind n b : Int) (w : World) (hl : Ln.lanes n = true) (hb : 0 ≤ b ∧ b < n) (hz : ¬ (0 ≤ kind ∧ kind ≤ 5) ∨ (0 < b ∧ (kind = 1 ∨ kind = 3 ∨ kind = 4))) :
    Calls Try.prog 17 #[.int .i64 kind, .int .i64 n, .int .i64 b, .int .i64 0] w (NoInt w) := by
  have hn := Ln.lanes_cases hl
  obtain ⟨b0, b1⟩ := hb
  clear hl
  rcases hz with hz | ⟨h0, rfl | rfl | rfl⟩
  · have e0 : (kind == 0) = false := by simp; omega
    have e1 : (kind == 1) = false := by simp; omega
    have e2 : (kind == 2) = false := by simp; omega
    have e3 : (kind == 3) = false := by simp; omega
    have e4 : (kind == 4) = false := by simp; omega
    have e5 : (kind == 5) = false := by simp; omega
    clear hz hn
    go_enter Try.func17, Try.ntmps17
    go_wp2
    go_ret2
    exact ⟨_, rfl, Below.refl _ _⟩
  · have e0 : (b == 0) = false := by simp; omega
    rcases hn with rfl | rfl | rfl | rfl
    all_goals
      go_enter Try.func17, Try.ntmps17
      go_wp2
      go_ret2
      exact ⟨_, rfl, Below.refl _ _⟩
  · have e0 : (b == 0) = false := by simp; omega
    rcases hn with rfl | rfl | rfl | rfl
    all_goals
      go_enter Try.func17, Try.ntmps17
      go_wp2
      go_ret2
      exact ⟨_, rfl, Below.refl _ _⟩
  · have e0 : (b == 0) = false := by simp; omega
    rcases hn with rfl | rfl | rfl | rfl
    all_goals
      go_enter Try.func17, Try.ntmps17
      go_wp2
      go_quiet (fail)
      go_wp2
      go_ret2
      exact ⟨_, rfl, below_drewN (Below.refl _ _) _⟩
set_option maxHeartbeats 1000000 in
set_option maxRecDepth 100000 in
theorem iNamedShuffle_any (kind n b : Int) (w : World) :
    Calls Try.prog 7 #[.int .i64 kind, .int .i64 n, .int .i64 b] w (Ret1 (Ln.named kind n b).1 (Ln.named kind n b).2 w) := by
  obtain ⟨i0, hi0, hz0, hz1, hz2⟩ := info_parts A_info64
  have k1 := isLanes_any n w
  unfold Ln.named Ln.namedOk
  obtain ⟨l, hl⟩ : ∃ l, l = Ln.lanes n := ⟨_, rfl⟩
  rw [← hl] at k1 ⊢
  cases l
  · rw [Bool.false_and, Bool.false_and, Bool.false_and]
    have C1 := Lib.hid k1
    clear k1 hl
    go_enter Try.func7, Try.ntmps7
    go_wp2_with fail
    refine C1.out.mono ?_
    rintro e w1 ⟨rfl, rfl⟩
    go_wp2_with fail
    go_ret2
    exact Ret1.no (Below.refl _ _)
  · rw [Bool.true_and]
    have hn := Ln.lanes_cases hl.symm
    obtain ⟨m, hm, rfl⟩ : ∃ m : Nat, m ≤ 16 ∧ n = (m : Int) := ⟨n.toNat, by omega, by omega⟩
    have hm1 : 2 ≤ m := by omega
    have C1 := Lib.hid k1
    have HLN := Lib.hid hl
    clear k1 hl hn
    by_cases h0 : b < 0
    · rw [decide_eq_false (show ¬ (0 ≤ b ∧ b < (m : Int)) by omega), Bool.and_false, Bool.false_and]
      go_enter Try.func7, Try.ntmps7
      go_wp2_with fail
      refine C1.out.mono ?_
      rintro e w1 ⟨rfl, rfl⟩
      go_wp2_with fail
      go_ret2
      exact Ret1.no (Below.refl _ _)
    · have b0 : 0 ≤ b := by omega
      by_cases h1 : b < (m : Int)
      · rw [decide_eq_true (show 0 ≤ b ∧ b < (m : Int) from ⟨b0, h1⟩), Bool.and_true]
        by_cases hz : ¬ (0 ≤ kind ∧ kind ≤ 5) ∨ (0 < b ∧ (kind = 1 ∨ kind = 3 ∨ kind = 4))
        · have e : (decide (0 ≤ kind ∧ kind ≤ 5) && !(decide (0 < b) && (kind == 1 || kind == 3 || kind == 4))) = false := by
            rcases hz with h | ⟨ha, hb⟩
            · rw [decide_eq_false h]; rfl
            · rw [decide_eq_true ha]
              rcases hb with rfl | rfl | rfl <;> simp
          rw [e]
          have HC := Lib.hid (fun W => nElem_no kind m b W HLN.out.symm ⟨b0, h1⟩ hz)
          clear e hz
          go_enter Try.func7, Try.ntmps7
          go_wp2_with fail
          refine C1.out.mono ?_
          rintro e w1 ⟨rfl, rfl⟩
          go_wp2_with (refine wpList_make_blk _ rfl _ _ _ rfl i0 Try.underlying25 hi0 hz0 hz1 hz2 _ _ _ _ m rfl rfl rfl rfl (by omega) ?_)
          have HB := Lib.hid ((Below.refl w.heap.size w).alloc (Nat.le_refl _) (.cells (Array.replicate m (Value.int .i64 0)) 2))
          go_loopw [27] (fun i wr => i = .int .i64 0 ∧ Below w.heap.size w wr) (fun i _ => 0)
          case atStart => exact ⟨rfl, HB.out⟩
          case round =>
            obtain ⟨rfl, hb⟩ := hrel
            have HB1 := Lib.hid hb; clear hb
            have i2 : (0 : Int) < (m : Int) := by omega
            go_wp2_with fail
            refine (HC.out _).mono ?_
            rintro e w2 ⟨v, rfl, hb⟩
            have HB2 := Lib.hid (HB1.out.trans (hb.mono HB1.out.size)); clear hb
            go_wp2_with fail
            go_ret2
            exact Ret1.no HB2.out
        · have hk : 0 ≤ kind ∧ kind ≤ 5 := by omega
          have hz' : ¬ (0 < b ∧ (kind = 1 ∨ kind = 3 ∨ kind = 4)) := by omega
          have e : (decide (0 ≤ kind ∧ kind ≤ 5) && !(decide (0 < b) && (kind == 1 || kind == 3 || kind == 4))) = true := by
            rw [decide_eq_true hk]
            simp
            omega
          rw [e]
          have HC := Lib.hid (fun (k : Nat) (hk' : k < m) W => nElem_yes kind m b k W HLN.out.symm hk ⟨b0, h1⟩ ⟨by omega, by omega⟩ hz')
          have HF := Lib.hid (fun (k : Nat) (hk' : k < m) => Ln.nel_lt (kind := kind) (n := m) (b := b) (i := k) HLN.out.symm ⟨by omega, by omega⟩ ⟨b0, h1⟩)
          clear e hz hk hz'
          go_enter Try.func7, Try.ntmps7
          go_wp2_with fail
          refine C1.out.mono ?_
          rintro e w1 ⟨rfl, rfl⟩
          go_wp2_with (refine wpList_make_blk _ rfl _ _ _ rfl i0 Try.underlying25 hi0 hz0 hz1 hz2 _ _ _ _ m rfl rfl rfl rfl (by omega) ?_)
          go_loopw [27] (fun i wr => Fills (fun j => Ln.nel kind m b j) m w.heap.size w i wr) (fun i _ => m - (intOf i).toNat)
          case atStart =>
            exact ⟨0, Nat.zero_le _, rfl, by rw [Ln.fill_zero, ← clls_zero]; exact Blk.new _ _, (Below.refl _ _).alloc (Nat.le_refl _) _⟩
          case round =>
            obtain ⟨k, hk, rfl, hblk, hb⟩ := hrel
            by_cases hlt : k < m
            · have HC1 := Lib.hid (HC.out k hlt)
              obtain ⟨x, hx⟩ : ∃ x, x = Ln.nel kind m b k := ⟨_, rfl⟩
              rw [← hx] at HC1
              have HX := Lib.hid hx; clear hx
              have HBK := Lib.hid hblk
              have HB := Lib.hid hb
              have i2 : (k : Int) < (m : Int) := by omega
              clear hblk hb
              go_wp2_with fail
              refine (HC1.out _).mono ?_
              rintro e w2 ⟨rfl, hb2⟩
              have hblk := HBK.out.keep hb2
              have hv0 := hblk.has hk hlt
              have hf := hblk.frozen k
              generalize (Ln.fill (fun j => Ln.nel kind m b j) m k).getD k 0 = old at hv0
              have HS := Lib.hid (Fills.step hlt (Nat.le_refl _) (HB.out.trans (hb2.mono HB.out.size)) hblk x HX.out)
              clear hblk hb2
              go_wp2
              go_roundw
              case rel => exact HS.out
              case measure => simp [intOf]; omega
            · have hkn : k = m := by omega
              have HALL := Lib.hid (And.intro hblk (And.intro hb hkn)); clear hblk hb hkn
              go_wp2
              go_ret2
              obtain ⟨hblk, hb, rfl⟩ := HALL.out
              rw [Ln.fill_all] at hblk
              exact Ret1.of_blk (zs := Ln.namedL kind k b) hblk (Ln.namedL_len _ _ _) (Nat.le_refl _) (by omega) hb
      · have h2 : (m : Int) ≤ b := by omega
        rw [decide_eq_false (show ¬ (0 ≤ b ∧ b < (m : Int)) by omega), Bool.and_false, Bool.false_and]
        go_enter Try.func7, Try.ntmps7
        go_wp2_with fail
        refine C1.out.mono ?_
        rintro e w1 ⟨rfl, rfl⟩
        go_wp2_with fail
        go_ret2
        exact Ret1.no (Below.refl _ _)
end Go.Proofs.Ytkoaljbjkogagaa.Wds
