/-
  What IsName and CheckOf return and do to memory, over the translated program (the code's own and the model's), and the walks of their laws.
-/
import Derived.Test.YthdiiefacgodnaaSpec
import Derived.Test.YthdiiefacgodnaaStrMath
import Derived.LoopTactic
import Derived.Laws.RangeString
import Derived.Laws.RangeAny
namespace Go.Proofs.Ythdiiefacgodnaa.Wds
open Go.RowKit

theorem byte_at (s : ByteArray) (k : Nat) (h : k < s.size) (h2 : k < s.data.toList.length) : s.data.toList[k]'h2 = s[k]'h := rfl

theorem isName_len (s : ByteArray) (w : World) (h : ¬ (1 ≤ s.size ∧ s.size ≤ 8)) (hm : s.size ≤ maxLen) : Calls Try.prog 12 #[.string s] w fun e w' => e = .returned (.bool false) ∧ Below w.heap.size w w' := by
  unfold maxLen at hm
  by_cases h0 : s.size = 0
  · have l1 : decide ((s.size : Int) < 1) = true := by simp; omega
    go_enter Try.func12, Try.ntmps12
    go_wp2
    go_ret
    exact ⟨rfl, Below.refl _ _⟩
  · have l1 : ¬ (s.size : Int) < 1 := by omega
    have l2 : (8 : Int) < s.size := by omega
    clear h
    go_enter Try.func12, Try.ntmps12
    go_wp2
    go_ret
    exact ⟨rfl, Below.refl _ _⟩
theorem isName_loop (s : ByteArray) (w : World) (h : 1 ≤ s.size ∧ s.size ≤ 8) : Calls Try.prog 12 #[.string s] w fun e w' => e = .returned (.bool (Wd.isName s.data.toList)) ∧ Below w.heap.size w w' := by
  obtain ⟨h1, h8⟩ := h
  have l1 : ¬ (s.size : Int) < 1 := by omega
  have l2 : ¬ (8 : Int) < s.size := by omega
  have hlen : s.data.toList.length = s.size := by simp
  have HL := Lib.hid hlen; clear hlen
  go_enter Try.func12, Try.ntmps12
  go_wp2
  go_loopw [4] (fun _ wr => ∃ pos : Nat, pos ≤ s.size ∧ wr = w.iter s pos ∧ Hid ((s.data.toList.take pos).all Wd.letter = true)) (fun _ wr => s.size - wr.iterPos w.heap.size)
  case atStart => exact ⟨0, Nat.zero_le _, rfl, Lib.hid rfl⟩
  case round =>
    obtain ⟨pos, hpos, rfl, hall⟩ := hrel
    by_cases hp : pos < s.size
    · have hlp : pos < s.data.toList.length := by rw [HL.out]; exact hp
      obtain ⟨c, hc⟩ : ∃ c : Nat, c = (s[pos]'hp).toNat := ⟨_, rfl⟩
      have HC := Lib.hid hc; clear hc
      by_cases hlo : c < 97
      · have hf : Wd.isName s.data.toList = false := Wd.isName_bad hlp (by rw [byte_at s pos hp, Wd.letter, ← HC.out]; simp; omega)
        have HF := Lib.hid hf; clear hf
        have hnx : ∀ ty, (Instr.next (.pointer (some ⟨w.heap.size, 0, none⟩)) true ty).run Try.prog (w.iter s pos) = .ok (.tuple #[.bool true, .int .i64 pos, .int .i32 c]) (w.iter s (pos + 1)) := fun ty => by
          rw [HC.out]; exact run_next_ascii w s pos ty hp (by rw [← HC.out]; omega)
        go_wp2
        go_ret
        exact ⟨by rw [HF.out]; rfl, (Below.refl _ _).alloc (Nat.le_refl _) _⟩
      · by_cases hhi : c ≤ 122
        · have hl : Wd.letter (s.data.toList[pos]'hlp) = true := by rw [byte_at s pos hp, Wd.letter, ← HC.out]; simp; omega
          have HN := Lib.hid (Wd.all_take_succ hlp hall.out hl); clear hl
          have hnx : ∀ ty, (Instr.next (.pointer (some ⟨w.heap.size, 0, none⟩)) true ty).run Try.prog (w.iter s pos) = .ok (.tuple #[.bool true, .int .i64 pos, .int .i32 c]) (w.iter s (pos + 1)) := fun ty => by
            rw [HC.out]; exact run_next_ascii w s pos ty hp (by rw [← HC.out]; omega)
          go_wp2
          go_roundw
          case rel => exact ⟨pos + 1, hp, rfl, HN⟩
          case measure => simp; omega
        · have hf : Wd.isName s.data.toList = false := Wd.isName_bad hlp (by rw [byte_at s pos hp, Wd.letter, ← HC.out]; simp; omega)
          have HF := Lib.hid hf; clear hf
          have hd : 122 < (Utf8.decode s pos).1 := by
            by_cases ha : (s[pos]'hp).toNat < 128
            · rw [decode_ascii s pos hp ha, ← HC.out]; omega
            · have := (decode_high s pos hp (by omega)).1; omega
          obtain ⟨r, hr⟩ : ∃ r : Nat, r = (Utf8.decode s pos).1 := ⟨_, rfl⟩
          rw [← hr] at hd
          obtain ⟨p', hp'⟩ : ∃ p' : Nat, p' = pos + (Utf8.decode s pos).2 := ⟨_, rfl⟩
          have hnx : ∀ ty, (Instr.next (.pointer (some ⟨w.heap.size, 0, none⟩)) true ty).run Try.prog (w.iter s pos) = .ok (.tuple #[.bool true, .int .i64 pos, .int .i32 r]) (w.iter s p') := fun ty => by
            rw [hr, hp']; exact run_next_any w s pos ty hp
          clear hr hp'
          go_wp2
          go_ret
          exact ⟨by rw [HF.out]; rfl, (Below.refl _ _).alloc (Nat.le_refl _) _⟩
    · have hps : pos = s.size := by omega
      have hg : Wd.isName s.data.toList = true := Wd.isName_good (by rw [HL.out]; omega) (by have := hall.out; rwa [List.take_of_length_le (by rw [HL.out]; omega)] at this)
      have HG := Lib.hid hg; clear hg hps
      have hnx : ∀ ty, (Instr.next (.pointer (some ⟨w.heap.size, 0, none⟩)) true ty).run Try.prog (w.iter s pos) = _ := fun ty => run_next_end w s pos ty hp
      go_wp2
      go_ret
      exact ⟨by rw [HG.out]; rfl, (Below.refl _ _).alloc (Nat.le_refl _) _⟩
theorem isName_any (s : ByteArray) (w : World) (hm : s.size ≤ maxLen) : Calls Try.prog 12 #[.string s] w fun e w' => e = .returned (.bool (Wd.isName s.data.toList)) ∧ Below w.heap.size w w' := by
  by_cases h : 1 ≤ s.size ∧ s.size ≤ 8
  · exact isName_loop s w h
  · rw [Wd.isName_short (by simpa using h)]; exact isName_len s w h hm
theorem sIsName_any (s : ByteArray) (w : World) (hm : s.size ≤ 1048576) : Calls Try.prog 11 #[.string s] w fun e w' => e = .returned (.bool (Wd.isName s.data.toList)) ∧ w = w' := by
  have hlen : s.data.toList.length = s.size := by simp
  have HL := Lib.hid hlen; clear hlen
  go_enter Try.func11, Try.ntmps11
  go_wp2
  go_loop [3] (fun i => ∃ k : Nat, k ≤ s.size ∧ i = .int .i64 k ∧ Hid ((s.data.toList.take k).all Wd.letter = true)) (fun i => s.size - (intOf i).toNat)
  case atStart => exact ⟨0, Nat.zero_le _, rfl, Lib.hid rfl⟩
  case round =>
    obtain ⟨k, hk, rfl, hall⟩ := hrel
    by_cases hp : k < s.size
    · have hlp : k < s.data.toList.length := by rw [HL.out]; exact hp
      by_cases hlo : ((s[k]'hp).toNat : Int) < 97
      · have hf : Wd.isName s.data.toList = false := Wd.isName_bad hlp (by rw [byte_at s k hp, Wd.letter]; simp; omega)
        have HF := Lib.hid hf; clear hf
        go_wp2
        go_ret
        exact ⟨by rw [HF.out]; rfl, rfl⟩
      · by_cases hhi : (122 : Int) < ((s[k]'hp).toNat : Int)
        · have hf : Wd.isName s.data.toList = false := Wd.isName_bad hlp (by rw [byte_at s k hp, Wd.letter]; simp; omega)
          have HF := Lib.hid hf; clear hf
          go_wp2
          go_ret
          exact ⟨by rw [HF.out]; rfl, rfl⟩
        · have hl : Wd.letter (s.data.toList[k]'hlp) = true := by rw [byte_at s k hp, Wd.letter]; simp; omega
          have HN := Lib.hid (Wd.all_take_succ hlp hall.out hl); clear hl
          go_wp2
          go_round
          case rel => exact ⟨k + 1, hp, by go_num, HN⟩
          case measure => simp [intOf]; omega
    · have hall' := hall.out
      rw [List.take_of_length_le (by rw [HL.out]; omega)] at hall'
      have HA := Lib.hid hall'; clear hall'
      by_cases h1 : (s.size : Int) < 1
      · have hf : Wd.isName s.data.toList = false := Wd.isName_short (by rw [HL.out]; omega)
        have HF := Lib.hid hf; clear hf
        go_wp2
        go_ret
        exact ⟨by rw [HF.out]; rfl, rfl⟩
      · by_cases h8 : (s.size : Int) ≤ 8
        · have hf : Wd.isName s.data.toList = true := Wd.isName_good (by rw [HL.out]; omega) HA.out
          have HF := Lib.hid hf; clear hf
          go_wp2
          go_ret
          exact ⟨by rw [HF.out]; rfl, rfl⟩
        · have hf : Wd.isName s.data.toList = false := Wd.isName_short (by rw [HL.out]; omega)
          have HF := Lib.hid hf; clear hf
          go_wp2
          go_ret
          exact ⟨by rw [HF.out]; rfl, rfl⟩
theorem law_isName (s : ByteArray) (w : World) (hm : s.size ≤ maxLen) : Calls Try.prog 3 #[.string s] w fun e w' => e = .returned (.bool true) ∧ Below w.heap.size w w' := by
  have hm' := hm
  unfold maxLen at hm'
  by_cases hbig : (1048576 : Int) < s.size
  · go_enter Try.func3, Try.ntmps3
    go_wp2
    go_ret
    exact ⟨rfl, Below.refl _ _⟩
  · obtain ⟨r, hr⟩ : ∃ r, r = Wd.isName s.data.toList := ⟨_, rfl⟩
    have c1 := sIsName_any s w (by omega)
    have c2 := isName_any s w hm
    rw [← hr] at c1 c2
    have C1 := Lib.hid c1; have C2 := Lib.hid c2; clear c1 c2 hr
    go_enter Try.func3, Try.ntmps3
    go_wp2_with (first | (go_at_call 11; refine C1.out.mono ?_; rintro e w' ⟨rfl, rfl⟩) | (go_at_call 12; refine C2.out.mono ?_; rintro e w' ⟨rfl, hbel⟩))
    go_ret
    exact ⟨rfl, hbel⟩
theorem scheck_any (n : Int) (s : ByteArray) (w : World) (hn : 0 ≤ n ∧ n ≤ 64006) (hm : s.size ≤ 1048576) : Calls Try.prog 43 #[.int .i64 n, .string s] w fun e w' => e = .returned (.int .i64 (Wd.chk n s.data.toList)) ∧ w = w' := by
  have hlen : s.data.toList.length = s.size := by simp
  have HL := Lib.hid hlen; clear hlen
  go_enter Try.func43, Try.ntmps43
  go_wp2
  go_loop [0, 5] (fun a i => ∃ (k : Nat) (c : Int), k ≤ s.size ∧ i = .int .i64 k ∧ a = .int .i64 c ∧ 0 ≤ c ∧ c ≤ 64006 ∧ Hid (c = Wd.chk n (s.data.toList.take k))) (fun _ i => s.size - (intOf i).toNat)
  case atStart => exact ⟨0, n, Nat.zero_le _, rfl, rfl, hn.1, hn.2, Lib.hid rfl⟩
  case round =>
    obtain ⟨k, c, hk, rfl, rfl, hc0, hc1, HC⟩ := hrel
    by_cases hp : k < s.size
    · have hlp : k < s.data.toList.length := by rw [HL.out]; exact hp
      have hb : (s[k]'hp).toNat < 256 := (s[k]'hp).toNat_lt
      have HN := Lib.hid (Wd.chk_succ n hlp)
      go_wp2
      go_round
      case rel => exact ⟨k + 1, _, hp, by go_num, rfl, by omega, by omega, Lib.hid (by rw [HN.out, ← HC.out]; rfl)⟩
      case measure => simp [intOf]; omega
    · have hks : k = s.size := by omega
      have HK := Lib.hid hks; clear hks
      go_wp2
      go_ret
      exact ⟨ret_int (by rw [HC.out, List.take_of_length_le (by rw [HL.out]; omega)]), rfl⟩
theorem check_any (n : Int) (s : ByteArray) (w : World) (hn : 0 ≤ n ∧ n ≤ 64006) (hm : s.size ≤ 1048576) : Calls Try.prog 26 #[.int .i64 n, .string s] w fun e w' => e = .returned (.tuple #[.int .i64 (Wd.chk n s.data.toList), .bool true]) ∧ w = w' := by
  have hlen : s.data.toList.length = s.size := by simp
  have HL := Lib.hid hlen; clear hlen
  go_enter Try.func26, Try.ntmps26
  go_wp2_with (go_at_call 29; refine (within_in _ _ _ _ (by omega) (by omega)).mono ?_; rintro e w' ⟨rfl, rfl⟩)
  go_loop [6, 14] (fun a i => ∃ (k : Nat) (c : Int), k ≤ s.size ∧ i = .int .i64 k ∧ a = .int .i64 c ∧ 0 ≤ c ∧ c ≤ 64006 ∧ Hid (c = Wd.chk n (s.data.toList.take k))) (fun _ i => s.size - (intOf i).toNat)
  case atStart => exact ⟨0, n, Nat.zero_le _, rfl, rfl, hn.1, hn.2, Lib.hid rfl⟩
  case round =>
    obtain ⟨k, c, hk, rfl, rfl, hc0, hc1, HC⟩ := hrel
    by_cases hp : k < s.size
    · have hlp : k < s.data.toList.length := by rw [HL.out]; exact hp
      have hb : (s[k]'hp).toNat < 256 := (s[k]'hp).toNat_lt
      have HN := Lib.hid (Wd.chk_succ n hlp)
      go_wp2
      go_round
      case rel => exact ⟨k + 1, _, hp, by go_num, rfl, by omega, by omega, Lib.hid (by rw [HN.out, ← HC.out]; rfl)⟩
      case measure => simp [intOf]; omega
    · have hks : k = s.size := by omega
      have HK := Lib.hid hks; clear hks
      go_wp2
      go_ret2
      exact ⟨ret_word (by rw [HC.out, List.take_of_length_le (by rw [HL.out]; omega)]), rfl⟩
theorem check_lo (n : Int) (s : ByteArray) (w : World) (hn : n < 0) : Calls Try.prog 26 #[.int .i64 n, .string s] w fun e w' => e = .returned (.tuple #[.int .i64 0, .bool false]) ∧ Below w.heap.size w w' := by
  go_enter Try.func26, Try.ntmps26
  go_wp2_with (go_at_call 29; refine (within_lo _ _ _ _ (by omega)).mono ?_; rintro e w' ⟨rfl, rfl⟩)
  go_ret2
  exact ⟨rfl, (Below.refl _ _).alloc (Nat.le_refl _) _⟩
theorem check_hi (n : Int) (s : ByteArray) (w : World) (hn : 64006 < n) : Calls Try.prog 26 #[.int .i64 n, .string s] w fun e w' => e = .returned (.tuple #[.int .i64 0, .bool false]) ∧ Below w.heap.size w w' := by
  go_enter Try.func26, Try.ntmps26
  go_wp2_with (go_at_call 29; refine (within_hi _ _ _ _ (by omega) (by omega)).mono ?_; rintro e w' ⟨rfl, rfl⟩)
  go_ret2
  exact ⟨rfl, (Below.refl _ _).alloc (Nat.le_refl _) _⟩
theorem sCheckOf_yes (n : Int) (s : ByteArray) (w : World) (hn : 0 ≤ n ∧ n ≤ 64006) (hm : s.size ≤ 1048576) : Calls Try.prog 25 #[.int .i64 n, .string s] w fun e w' => e = .returned (.tuple #[.int .i64 (Wd.chk n s.data.toList), .bool true]) ∧ w = w' := by
  go_enter Try.func25, Try.ntmps25
  go_wp2_with (first | (go_at_call 34; refine (in_yes _ _ _ _ hn).mono ?_; rintro e w' ⟨rfl, rfl⟩) | (go_at_call 43; refine (scheck_any _ _ _ hn hm).mono ?_; rintro e w' ⟨rfl, rfl⟩))
  go_ret2
  exact ⟨rfl, rfl⟩
theorem sCheckOf_no (n : Int) (s : ByteArray) (w : World) (hn : ¬ (0 ≤ n ∧ n ≤ 64006)) : Calls Try.prog 25 #[.int .i64 n, .string s] w fun e w' => e = .returned (.tuple #[.int .i64 0, .bool false]) ∧ w = w' := by
  go_enter Try.func25, Try.ntmps25
  go_wp2_with (go_at_call 34; refine (in_no _ _ _ _ hn).mono ?_; rintro e w' ⟨rfl, rfl⟩)
  go_ret2
  exact ⟨rfl, rfl⟩
theorem check_no (n : Int) (s : ByteArray) (w : World) (hn : ¬ (0 ≤ n ∧ n ≤ 64006)) : Calls Try.prog 26 #[.int .i64 n, .string s] w fun e w' => e = .returned (.tuple #[.int .i64 0, .bool false]) ∧ Below w.heap.size w w' := by
  by_cases h : n < 0
  · exact check_lo n s w h
  · exact check_hi n s w (by omega)
theorem law_checkOf (n : Int) (s : ByteArray) (w : World) (hm : s.size ≤ maxLen) : Calls Try.prog 10 #[.int .i64 n, .string s] w fun e w' => e = .returned (.bool true) ∧ Below w.heap.size w w' := by
  unfold maxLen at hm
  by_cases hbig : (1048576 : Int) < s.size
  · go_enter Try.func10, Try.ntmps10
    go_wp2
    go_ret
    exact ⟨rfl, Below.refl _ _⟩
  · by_cases hn : 0 ≤ n ∧ n ≤ 64006
    · obtain ⟨r, hr⟩ : ∃ r, r = Wd.chk n s.data.toList := ⟨_, rfl⟩
      have c1 := sCheckOf_yes n s w hn (by omega)
      have c2 := check_any n s w hn (by omega)
      rw [← hr] at c1 c2
      have C1 := Lib.hid c1; have C2 := Lib.hid c2; clear c1 c2 hr
      go_enter Try.func10, Try.ntmps10
      go_wp2_with (first | (go_at_call 25; refine C1.out.mono ?_; rintro e w' ⟨rfl, rfl⟩) | (go_at_call 26; refine C2.out.mono ?_; rintro e w' ⟨rfl, rfl⟩))
      go_ret
      exact ⟨rfl, Below.refl _ _⟩
    · go_enter Try.func10, Try.ntmps10
      go_wp2_with (first | (go_at_call 25; refine (sCheckOf_no _ _ _ hn).mono ?_; rintro e w' ⟨rfl, rfl⟩) | (go_at_call 26; refine (check_no _ _ _ hn).mono ?_; rintro e w' ⟨rfl, hbel⟩))
      go_ret
      exact ⟨rfl, hbel⟩
end Go.Proofs.Ythdiiefacgodnaa.Wds
