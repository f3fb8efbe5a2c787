/-
  Lanes compressed and expanded by a mask: the code's and the model's functions; one contract each.
-/
import Derived.Test.YtdddhcpdcieacaaVecW
import Derived.Test.YtdddhcpdcieacaaCpy
import Derived.Test.YtdddhcpdcieacaaLan3
namespace Go.Proofs.Ytdddhcpdcieacaa.Wds
open Go.RowKit
set_option linter.unusedVariables false

theorem Ret1.of_rowB {w w' : World} {B : Nat} {v : Value} {n : Nat} {zs : List Int} (h : w'.ownsRow B 2 1 v n (zs.map (Value.int .i64))) (hB : w.heap.size ≤ B) (hn : n ≤ 1048576) (hb : Below w.heap.size w w') : Ret1 zs true w (.returned (.tuple #[v, .bool true])) w' := by
  obtain ⟨A, c, rfl, hc, ho⟩ := own_form h
  exact ⟨A, n, c, rfl, ho.more hB (Nat.le_refl _), hn, hb⟩
theorem Fills.skip2 {f : Nat → Int} {n g k : Nat} {w wr : World} (hk : k < n) (hb : Below w.heap.size w wr) (h : Blk wr g (clls (Ln.fill f n k))) (hz : 0 = f k) : Fills f n g w (.int .i64 (k + 1 : Nat)) wr := by
  refine ⟨k + 1, by omega, rfl, ?_, hb⟩
  have e : Ln.fill f n (k + 1) = Ln.fill f n k := by
    unfold Ln.fill
    obtain ⟨m, hm⟩ : ∃ m, n - k = m + 1 := ⟨n - k - 1, by omega⟩
    have hm' : n - (k + 1) = m := by omega
    rw [hm, hm', Ln.tab_succ, ← hz, List.replicate_succ, List.append_assoc]
    rfl
  rw [e]; exact h

/-- The relation of the loop that keeps the lanes that are on. -/
def Packs (ms xs : List Int) (n : Nat) (B : Nat) (w : World) (v i : Value) (wr : World) : Prop :=
  ∃ k : Nat, k ≤ n ∧ i = .int .i64 k ∧ wr.ownsRow B 2 1 v (Ln.up ms k) ((Ln.onK ms xs k).map (Value.int .i64)) ∧ Below w.heap.size w wr ∧ B ≤ wr.heap.size
set_option maxHeartbeats 1000000 in
theorem sCompress_yes (b : Int) (A A1 : Option Addr) (n c c1 : Nat) (ms xs : List Int) (B B1 : Nat) (w : World) (hn : n ≤ 1048576) (h : Rd w B A n ms) (h1 : Rd w B1 A1 n xs) (hm : Ln.masked b ms xs = true) :
    Calls Try.prog 19 #[.int .i64 b, .slice A n c, .slice A1 n c1] w (Ret1 (Ln.packK ms xs xs.length xs.length) true w) := by
  obtain ⟨i0, hi, hz0, hz1, hz2⟩ := info_parts A_info64
  obtain ⟨l1, hv, lm⟩ := Ln.masked_len hm
  have hlx := h1.len
  have k1 := sIs_any b A1 n c1 xs B1 w hn h1
  have k2 : ∀ w1, Below w.heap.size w w1 → Calls Try.prog 33 #[.slice A n c, .int .i64 n] w1 (RetB (Ln.msk ms && ms.length == n) w1) := fun w1 hb => sMask_any A n c n ms B w1 hn hn (h.below hb)
  have e2 : (Ln.msk ms && ms.length == n) = true := by rw [lm, l1, hlx]; simp
  rw [hv] at k1
  rw [e2] at k2
  have C1 := Lib.hid k1
  have C2 := Lib.hid k2
  have H := Lib.hid h
  have H1 := Lib.hid h1
  rw [hlx]
  clear h h1 k1 k2 e2 hlx hm l1 hv lm
  go_enter Try.func19, Try.ntmps19
  go_wp2_with fail
  refine C1.out.mono ?_
  rintro e w1 ⟨rfl, hb⟩
  have HB1 := Lib.hid hb; clear hb
  go_wp2_with fail
  refine (C2.out _ HB1.out).mono ?_
  rintro e w2 ⟨rfl, hb⟩
  have HB2 := Lib.hid (HB1.out.trans (hb.mono HB1.out.size)); clear hb
  have HS2 := Lib.hid HB2.out.size
  go_wp2_with fail
  go_loopw [8, 9] (fun v i wr => Packs ms xs n w2.heap.size w v i wr) (fun _ i _ => n - (intOf i).toNat)
  case atStart =>
    refine ⟨0, Nat.zero_le _, rfl, owns_new w2, HB2.out.alloc HS2.out _, by simp⟩
  case round =>
    obtain ⟨k, hk, rfl, hown, hb, hsz⟩ := hrel
    have HO := Lib.hid hown
    have HB := Lib.hid hb; clear hown hb
    by_cases hlt : k < n
    · have hu := Ln.up_le ms k
      obtain ⟨g, o, rfl, hg, hc⟩ := H.out.at_ hlt
      obtain ⟨g1, o1, rfl, hg1, hc1⟩ := H1.out.at_ hlt
      have hd1 := (HB.out.cell (p := ⟨g1, o1 + k, none⟩) (World.block_lt_of_cell? w _ hc1)).trans hc1
      obtain ⟨x, hx⟩ : ∃ z, z = xs.getD k 0 := ⟨_, rfl⟩
      rw [← hx] at hd1
      have HX := Lib.hid hx; clear hx hc1
      have hd := (HB.out.cell (p := ⟨g, o + k, none⟩) (World.block_lt_of_cell? w _ hc)).trans hc
      obtain ⟨m, hm⟩ : ∃ z, z = ms.getD k 0 := ⟨_, rfl⟩
      rw [← hm] at hd
      have HM := Lib.hid hm; clear hm hc
      by_cases h1 : m = 1
      · subst h1
        go_wp2_with (at_builtin; refine wpList_push _ rfl _ _ rfl i0 Try.underlying22 hi hz0 hz1 hz2 _ _ _ _ _ rfl HO.out rfl (by omega) hsz ?_; intro v' w3 hown1 hb1; have HO1 := Lib.hid hown1; have HBB := Lib.hid hb1; clear hown1 hb1)
        go_roundw
        case rel =>
          refine ⟨k + 1, by omega, by go_num, ?_, HB.out.trans (HBB.out.mono HS2.out), Nat.le_trans hsz HBB.out.size⟩
          have e1 := Ln.up_on (ms := ms) (k := k) HM.out.symm
          have e2 := Ln.onK_on (ms := ms) (xs := xs) (k := k) HM.out.symm
          rw [e1, e2, ← HX.out]
          exact HO1.out
        case measure => simp [intOf]; omega
      · have e1 : (m == 1) = false := by rw [beq_eq_false_iff_ne]; exact h1
        have HNE := Lib.hid h1
        clear h1
        go_wp2
        go_roundw
        case rel =>
          refine ⟨k + 1, by omega, by go_num, ?_, HB.out, hsz⟩
          have hne : ms.getD k 0 ≠ 1 := by rw [← HM.out]; exact HNE.out
          rw [Ln.up_off hne, Ln.onK_off hne]
          exact HO.out
        case measure => simp [intOf]; omega
    · have hkn : k = n := by omega
      have HK := Lib.hid hkn; clear hkn
      obtain ⟨A3, c3, rfl, _, ho3⟩ := own_form HO.out
      have hu := Ln.up_le ms k
      go_wp2
      go_loopw [8] (fun v wr => ∃ (j : Nat) (A4 : Option Addr) (c4 : Nat), v = .slice A4 (Ln.up ms n + j) c4 ∧ Ln.up ms n + j ≤ n ∧ wr.ownsRow w2.heap.size 2 1 v (Ln.up ms n + j) ((Ln.onK ms xs n ++ List.replicate j 0).map (Value.int .i64)) ∧ Below w.heap.size w wr ∧ w2.heap.size ≤ wr.heap.size) (fun v _ => match v with | .slice _ m _ => n - m | _ => 0)
      case atStart =>
        have hkk := HK.out
        subst hkk
        exact ⟨0, A3, c3, rfl, hu, by simpa using HO.out, HB.out, hsz⟩
      case round =>
        obtain ⟨j, A4, c4, rfl, hj, hown, hb, hsz⟩ := hrel
        have HO5 := Lib.hid hown
        have HB5 := Lib.hid hb; clear hown hb
        have hkk := HK.out
        have hup := Ln.up_le ms n
        obtain ⟨q, hq⟩ : ∃ q, q = Ln.up ms n + j := ⟨_, rfl⟩
        rw [← hq] at HO5 hj
        rw [← hq]
        have HQ := Lib.hid hq; clear hq hkk hup
        by_cases hlt : q < n
        · go_wp2_with (at_builtin; refine wpList_push _ rfl _ _ rfl i0 Try.underlying22 hi hz0 hz1 hz2 _ _ _ _ _ rfl HO5.out rfl (by omega) hsz ?_; intro v' w3 hown1 hb1; obtain ⟨A6, c6, rfl, _, _⟩ := own_form hown1; have HO1 := Lib.hid hown1; have HBB := Lib.hid hb1; clear hown1 hb1)
          go_roundw
          case rel =>
            refine ⟨j + 1, A6, c6, by rw [HQ.out]; rfl, by rw [← Nat.add_assoc, ← HQ.out]; exact hlt, ?_, HB5.out.trans (HBB.out.mono HS2.out), Nat.le_trans hsz HBB.out.size⟩
            have := HO1.out
            rw [List.append_assoc, ← List.replicate_succ'] at this
            rw [← Nat.add_assoc, ← HQ.out]
            exact this
          case measure => simp; omega
        · have hqn : q = n := by omega
          have HQN := Lib.hid hqn; clear hqn
          go_wp2
          go_ret2
          have e := HQN.out
          have eq := HQ.out
          subst e
          have hup := Ln.up_le ms q
          have hj : j = q - Ln.up ms q := by omega
          have := HO5.out
          rw [hj] at this
          exact Ret1.of_rowB this HS2.out hn HB5.out
theorem sCompressLanes_any (b : Int) (A : Option Addr) (n c : Nat) (ms : List Int) (B : Nat) (A1 : Option Addr) (n1 c1 : Nat) (xs : List Int) (B1 : Nat) (w : World)
    (hn : n ≤ 1048576) (hn1 : n1 ≤ 1048576) (h : Rd w B A n ms) (h1 : Rd w B1 A1 n1 xs) :
    Calls Try.prog 19 #[.int .i64 b, .slice A n c, .slice A1 n1 c1] w (Ret1 (Ln.compress2 b ms xs).1 (Ln.compress2 b ms xs).2 w) := by
  unfold Ln.compress2
  by_cases hm : Ln.masked b ms xs = true
  · obtain ⟨l1, _, _⟩ := Ln.masked_len hm
    have g0 := h.len
    have g1 := h1.len
    obtain rfl : n1 = n := by omega
    rw [hm]
    exact sCompress_yes b A A1 n1 c c1 ms xs B B1 w hn h h1 hm
  · have hm' : Ln.masked b ms xs = false := by simpa using hm
    have k1 := sIs_any b A1 n1 c1 xs B1 w hn1 h1
    have k2 : ∀ w1, Below w.heap.size w w1 → Calls Try.prog 33 #[.slice A n c, .int .i64 n1] w1 (RetB (Ln.msk ms && ms.length == n1) w1) := fun w1 hb => sMask_any A n c n1 ms B w1 hn hn1 (h.below hb)
    have e := Ln.masked_cond b ms xs
    rw [hm', h1.len] at e
    rw [hm']
    generalize Ln.vec b xs = p1 at *
    generalize (Ln.msk ms && ms.length == n1) = p2 at *
    have C1 := Lib.hid k1
    have C2 := Lib.hid k2
    clear k1 k2 h h1 hm hm'
    cases p1
    · clear e
      go_enter Try.func19, Try.ntmps19
      go_wp2_with fail
      refine C1.out.mono ?_
      rintro e w1 ⟨rfl, hb⟩
      have HB := Lib.hid hb; clear hb
      go_wp2_with fail
      go_ret2
      exact Ret1.no HB.out
    · cases p2
      · clear e
        go_enter Try.func19, Try.ntmps19
        go_wp2_with fail
        refine C1.out.mono ?_
        rintro e w1 ⟨rfl, hb⟩
        have HB := Lib.hid hb; clear hb
        go_wp2_with fail
        refine (C2.out _ HB.out).mono ?_
        rintro e w2 ⟨rfl, hb⟩
        have HB2 := Lib.hid (HB.out.trans (hb.mono HB.out.size)); clear hb
        go_wp2_with fail
        go_ret2
        exact Ret1.no HB2.out
      · cases e
set_option maxHeartbeats 1000000 in
theorem iCompress_yes (b : Int) (A A1 : Option Addr) (n c c1 : Nat) (ms xs : List Int) (B B1 : Nat) (w : World) (hn : n ≤ 1048576) (h : Rd w B A n ms) (h1 : Rd w B1 A1 n xs) (hm : Ln.masked b ms xs = true) :
    Calls Try.prog 20 #[.int .i64 b, .slice A n c, .slice A1 n c1] w (Ret1 (Ln.packK ms xs xs.length xs.length) true w) := by
  obtain ⟨i0, hi, hz0, hz1, hz2⟩ := info_parts A_info64
  obtain ⟨l1, hv, lm⟩ := Ln.masked_len hm
  have hlx := h1.len
  have k1 := areMask_any b A A1 n n c c1 ms xs B B1 w hn hn h h1
  rw [hm] at k1
  have C1 := Lib.hid k1
  have H := Lib.hid h
  have H1 := Lib.hid h1
  rw [hlx]
  clear h h1 k1 hlx hm l1 hv lm
  go_enter Try.func20, Try.ntmps20
  go_wp2_with fail
  refine C1.out.mono ?_
  rintro e w1 ⟨rfl, hb⟩
  have HB1 := Lib.hid hb; clear hb
  have HS1 := Lib.hid HB1.out.size
  go_wp2_with (refine wpList_make_blk _ rfl _ _ _ rfl i0 Try.underlying22 hi hz0 hz1 hz2 _ _ _ _ n rfl rfl rfl rfl (by omega) ?_)
  go_loopw [9, 22] (fun q i wr => ∃ k : Nat, k ≤ n ∧ i = .int .i64 k ∧ q = .int .i64 (Ln.up ms k) ∧ Blk wr w1.heap.size (clls (Ln.packK ms xs n k)) ∧ Below w.heap.size w wr) (fun _ i _ => n - (intOf i).toNat)
  case atStart =>
    exact ⟨0, Nat.zero_le _, rfl, rfl, by rw [Ln.packK_zero, ← clls_zero]; exact Blk.new _ _, HB1.out.alloc HS1.out _⟩
  case round =>
    obtain ⟨k, hk, rfl, rfl, hblk, hb⟩ := hrel
    have HK := Lib.hid hblk
    have HB := Lib.hid hb; clear hblk hb
    by_cases hlt : k < n
    · have hu := Ln.up_le ms k
      obtain ⟨g, o, rfl, hg, hc⟩ := H.out.at_ hlt
      obtain ⟨g1, o1, rfl, hg1, hc1⟩ := H1.out.at_ hlt
      have hd1 := (HB.out.cell (p := ⟨g1, o1 + k, none⟩) (World.block_lt_of_cell? w _ hc1)).trans hc1
      obtain ⟨x, hx⟩ : ∃ z, z = xs.getD k 0 := ⟨_, rfl⟩
      rw [← hx] at hd1
      have HX := Lib.hid hx; clear hx hc1
      obtain ⟨q, hq⟩ : ∃ q, q = Ln.up ms k := ⟨_, rfl⟩
      have hf := HK.out.frozen q
      have hv0 := (HK.out.cell q).trans (clls_get (by rw [Ln.packK_len ms xs n k hk]; omega))
      have HST := Lib.hid (HK.out.set_ q (.int .i64 x))
      have HBS := Lib.hid (HB.out.setCell (p := ⟨w1.heap.size, q, none⟩) HS1.out (.int .i64 x))
      rw [← hq] at hu
      rw [← hq]
      have HQ := Lib.hid hq; clear hq
      have hd := (HB.out.cell (p := ⟨g, o + k, none⟩) (World.block_lt_of_cell? w _ hc)).trans hc
      obtain ⟨m, hm⟩ : ∃ z, z = ms.getD k 0 := ⟨_, rfl⟩
      rw [← hm] at hd
      have HM := Lib.hid hm; clear hm hc
      by_cases h1 : m = 1
      · subst h1
        go_wp2
        go_roundw
        case rel =>
          have hm := HM.out.symm
          have e1 := Ln.packK_on (ms := ms) (xs := xs) hlt hm
          have := HST.out
          rw [HQ.out, HX.out, clls_set, e1] at this
          refine ⟨k + 1, by omega, by go_num, by rw [Ln.up_on hm, HQ.out]; go_num, ?_, HBS.out⟩
          rw [HQ.out, HX.out]
          exact this
        case measure => simp [intOf]; omega
      · have e1 : (m == 1) = false := by rw [beq_eq_false_iff_ne]; exact h1
        have HNE := Lib.hid h1
        clear h1
        go_wp2
        go_roundw
        case rel =>
          have hne : ms.getD k 0 ≠ 1 := by rw [← HM.out]; exact HNE.out
          exact ⟨k + 1, by omega, by go_num, by rw [Ln.up_off hne, HQ.out], by rw [Ln.packK_off hne]; exact HK.out, HB.out⟩
        case measure => simp [intOf]; omega
    · have hkn : k = n := by omega
      have HN := Lib.hid hkn; clear hkn
      go_wp2
      go_ret2
      have := HN.out
      subst this
      exact Ret1.of_blk HK.out (Ln.packK_len _ _ _ _ (Nat.le_refl _)) HS1.out hn HB.out
theorem iCompressLanes_any (b : Int) (A : Option Addr) (n c : Nat) (ms : List Int) (B : Nat) (A1 : Option Addr) (n1 c1 : Nat) (xs : List Int) (B1 : Nat) (w : World)
    (hn : n ≤ 1048576) (hn1 : n1 ≤ 1048576) (h : Rd w B A n ms) (h1 : Rd w B1 A1 n1 xs) :
    Calls Try.prog 20 #[.int .i64 b, .slice A n c, .slice A1 n1 c1] w (Ret1 (Ln.compress2 b ms xs).1 (Ln.compress2 b ms xs).2 w) := by
  unfold Ln.compress2
  by_cases hm : Ln.masked b ms xs = true
  · obtain ⟨l1, _, _⟩ := Ln.masked_len hm
    have g0 := h.len
    have g1 := h1.len
    obtain rfl : n1 = n := by omega
    rw [hm]
    exact iCompress_yes b A A1 n1 c c1 ms xs B B1 w hn h h1 hm
  · have hm' : Ln.masked b ms xs = false := by simpa using hm
    have k1 := areMask_any b A A1 n n1 c c1 ms xs B B1 w hn hn1 h h1
    rw [hm'] at k1
    rw [hm']
    have C1 := Lib.hid k1
    clear k1 h h1 hm hm'
    go_enter Try.func20, Try.ntmps20
    go_wp2_with fail
    refine C1.out.mono ?_
    rintro e w1 ⟨rfl, hb⟩
    have HB := Lib.hid hb; clear hb
    go_wp2_with fail
    go_ret2
    exact Ret1.no HB.out
set_option maxHeartbeats 1000000 in
theorem sExpand_yes (b : Int) (A A1 : Option Addr) (n c c1 : Nat) (ms xs : List Int) (B B1 : Nat) (w : World) (hn : n ≤ 1048576) (h : Rd w B A n ms) (h1 : Rd w B1 A1 n xs) (hm : Ln.masked b ms xs = true) :
    Calls Try.prog 21 #[.int .i64 b, .slice A n c, .slice A1 n c1] w (Ret1 (Ln.tab (Ln.spreadF ms xs) xs.length) true w) := by
  obtain ⟨i0, hi, hz0, hz1, hz2⟩ := info_parts A_info64
  obtain ⟨l1, hv, lm⟩ := Ln.masked_len hm
  have hlx := h1.len
  have k1 := sIs_any b A1 n c1 xs B1 w hn h1
  have k2 : ∀ w1, Below w.heap.size w w1 → Calls Try.prog 33 #[.slice A n c, .int .i64 n] w1 (RetB (Ln.msk ms && ms.length == n) w1) := fun w1 hb => sMask_any A n c n ms B w1 hn hn (h.below hb)
  have e2 : (Ln.msk ms && ms.length == n) = true := by rw [lm, l1, hlx]; simp
  rw [hv] at k1
  rw [e2] at k2
  have C1 := Lib.hid k1
  have C2 := Lib.hid k2
  have H := Lib.hid h
  have H1 := Lib.hid h1
  rw [hlx]
  clear h h1 k1 k2 e2 hlx hm l1 hv lm
  go_enter Try.func21, Try.ntmps21
  go_wp2_with fail
  refine C1.out.mono ?_
  rintro e w1 ⟨rfl, hb⟩
  have HB1 := Lib.hid hb; clear hb
  go_wp2_with fail
  refine (C2.out _ HB1.out).mono ?_
  rintro e w2 ⟨rfl, hb⟩
  have HB2 := Lib.hid (HB1.out.trans (hb.mono HB1.out.size)); clear hb
  have HS2 := Lib.hid HB2.out.size
  go_wp2_with fail
  go_loopw [8, 9, 10] (fun v q i wr => ∃ k : Nat, k ≤ n ∧ i = .int .i64 k ∧ q = .int .i64 (Ln.up ms k) ∧ wr.ownsRow w2.heap.size 2 1 v k ((Ln.tab (Ln.spreadF ms xs) k).map (Value.int .i64)) ∧ Below w.heap.size w wr ∧ w2.heap.size ≤ wr.heap.size) (fun _ _ i _ => n - (intOf i).toNat)
  case atStart => exact ⟨0, Nat.zero_le _, rfl, rfl, owns_new w2, HB2.out.alloc HS2.out _, by simp⟩
  case round =>
    obtain ⟨k, hk, rfl, rfl, hown, hb, hsz⟩ := hrel
    have HO := Lib.hid hown
    have HB := Lib.hid hb; clear hown hb
    by_cases hlt : k < n
    · have hu := Ln.up_le ms k
      obtain ⟨g, o, rfl, hg, hc⟩ := H.out.at_ hlt
      obtain ⟨g1, o1, rfl, hg1, hc1⟩ := H1.out.at_ (k := Ln.up ms k) (by omega)
      have hd1 := (HB.out.cell (p := ⟨g1, o1 + Ln.up ms k, none⟩) (World.block_lt_of_cell? w _ hc1)).trans hc1
      obtain ⟨x, hx⟩ : ∃ z, z = xs.getD (Ln.up ms k) 0 := ⟨_, rfl⟩
      rw [← hx] at hd1
      have HX := Lib.hid hx; clear hx hc1
      obtain ⟨q, hq⟩ : ∃ q, q = Ln.up ms k := ⟨_, rfl⟩
      rw [← hq] at hu hd1
      rw [← hq]
      have HQ := Lib.hid hq; clear hq
      have hd := (HB.out.cell (p := ⟨g, o + k, none⟩) (World.block_lt_of_cell? w _ hc)).trans hc
      obtain ⟨m, hm⟩ : ∃ z, z = ms.getD k 0 := ⟨_, rfl⟩
      rw [← hm] at hd
      have HM := Lib.hid hm; clear hm hc
      by_cases h1 : m = 1
      · subst h1
        go_wp2_with (at_builtin; refine wpList_push _ rfl _ _ rfl i0 Try.underlying22 hi hz0 hz1 hz2 _ _ _ _ _ rfl HO.out rfl (by omega) hsz ?_; intro v' w3 hown1 hb1; have HO1 := Lib.hid hown1; have HBB := Lib.hid hb1; clear hown1 hb1)
        go_roundw
        case rel =>
          have hm := HM.out.symm
          refine ⟨k + 1, by omega, by go_num, by rw [Ln.up_on hm, HQ.out]; go_num, ?_, HB.out.trans (HBB.out.mono HS2.out), Nat.le_trans hsz HBB.out.size⟩
          rw [Ln.tab_succ, Ln.spread_on hm, ← HX.out]
          exact HO1.out
        case measure => simp [intOf]; omega
      · have e1 : (m == 1) = false := by rw [beq_eq_false_iff_ne]; exact h1
        have HNE := Lib.hid h1
        clear h1
        go_wp2_with (at_builtin; refine wpList_push _ rfl _ _ rfl i0 Try.underlying22 hi hz0 hz1 hz2 _ _ _ _ _ rfl HO.out rfl (by omega) hsz ?_; intro v' w3 hown1 hb1; have HO1 := Lib.hid hown1; have HBB := Lib.hid hb1; clear hown1 hb1)
        go_roundw
        case rel =>
          have hne : ms.getD k 0 ≠ 1 := by rw [← HM.out]; exact HNE.out
          refine ⟨k + 1, by omega, by go_num, by rw [Ln.up_off hne, HQ.out], ?_, HB.out.trans (HBB.out.mono HS2.out), Nat.le_trans hsz HBB.out.size⟩
          rw [Ln.tab_succ, Ln.spread_off hne]
          exact HO1.out
        case measure => simp [intOf]; omega
    · have hkn : k = n := by omega
      have HN := Lib.hid hkn; clear hkn
      go_wp2
      go_ret2
      have := HN.out
      subst this
      exact Ret1.of_rowB HO.out HS2.out hn HB.out
theorem sExpandLanes_any (b : Int) (A : Option Addr) (n c : Nat) (ms : List Int) (B : Nat) (A1 : Option Addr) (n1 c1 : Nat) (xs : List Int) (B1 : Nat) (w : World)
    (hn : n ≤ 1048576) (hn1 : n1 ≤ 1048576) (h : Rd w B A n ms) (h1 : Rd w B1 A1 n1 xs) :
    Calls Try.prog 21 #[.int .i64 b, .slice A n c, .slice A1 n1 c1] w (Ret1 (Ln.expand2 b ms xs).1 (Ln.expand2 b ms xs).2 w) := by
  unfold Ln.expand2
  by_cases hm : Ln.masked b ms xs = true
  · obtain ⟨l1, _, _⟩ := Ln.masked_len hm
    have g0 := h.len
    have g1 := h1.len
    obtain rfl : n1 = n := by omega
    rw [hm]
    exact sExpand_yes b A A1 n1 c c1 ms xs B B1 w hn h h1 hm
  · have hm' : Ln.masked b ms xs = false := by simpa using hm
    have k1 := sIs_any b A1 n1 c1 xs B1 w hn1 h1
    have k2 : ∀ w1, Below w.heap.size w w1 → Calls Try.prog 33 #[.slice A n c, .int .i64 n1] w1 (RetB (Ln.msk ms && ms.length == n1) w1) := fun w1 hb => sMask_any A n c n1 ms B w1 hn hn1 (h.below hb)
    have e := Ln.masked_cond b ms xs
    rw [hm', h1.len] at e
    rw [hm']
    generalize Ln.vec b xs = p1 at *
    generalize (Ln.msk ms && ms.length == n1) = p2 at *
    have C1 := Lib.hid k1
    have C2 := Lib.hid k2
    clear k1 k2 h h1 hm hm'
    cases p1
    · clear e
      go_enter Try.func21, Try.ntmps21
      go_wp2_with fail
      refine C1.out.mono ?_
      rintro e w1 ⟨rfl, hb⟩
      have HB := Lib.hid hb; clear hb
      go_wp2_with fail
      go_ret2
      exact Ret1.no HB.out
    · cases p2
      · clear e
        go_enter Try.func21, Try.ntmps21
        go_wp2_with fail
        refine C1.out.mono ?_
        rintro e w1 ⟨rfl, hb⟩
        have HB := Lib.hid hb; clear hb
        go_wp2_with fail
        refine (C2.out _ HB.out).mono ?_
        rintro e w2 ⟨rfl, hb⟩
        have HB2 := Lib.hid (HB.out.trans (hb.mono HB.out.size)); clear hb
        go_wp2_with fail
        go_ret2
        exact Ret1.no HB2.out
      · cases e
set_option maxHeartbeats 1000000 in
theorem iExpand_yes (b : Int) (A A1 : Option Addr) (n c c1 : Nat) (ms xs : List Int) (B B1 : Nat) (w : World) (hn : n ≤ 1048576) (h : Rd w B A n ms) (h1 : Rd w B1 A1 n xs) (hm : Ln.masked b ms xs = true) :
    Calls Try.prog 22 #[.int .i64 b, .slice A n c, .slice A1 n c1] w (Ret1 (Ln.tab (Ln.spreadF ms xs) xs.length) true w) := by
  obtain ⟨i0, hi, hz0, hz1, hz2⟩ := info_parts A_info64
  obtain ⟨l1, hv, lm⟩ := Ln.masked_len hm
  have hlx := h1.len
  have k1 := areMask_any b A A1 n n c c1 ms xs B B1 w hn hn h h1
  rw [hm] at k1
  have C1 := Lib.hid k1
  have H := Lib.hid h
  have H1 := Lib.hid h1
  rw [hlx]
  clear h h1 k1 hlx hm l1 hv lm
  go_enter Try.func22, Try.ntmps22
  go_wp2_with fail
  refine C1.out.mono ?_
  rintro e w1 ⟨rfl, hb⟩
  have HB1 := Lib.hid hb; clear hb
  have HS1 := Lib.hid HB1.out.size
  go_wp2_with (refine wpList_make_blk _ rfl _ _ _ rfl i0 Try.underlying22 hi hz0 hz1 hz2 _ _ _ _ n rfl rfl rfl rfl (by omega) ?_)
  go_loopw [9, 22] (fun q i wr => ∃ k : Nat, q = .int .i64 (Ln.up ms k) ∧ k ≤ n ∧ i = .int .i64 k ∧ Fills (Ln.spreadF ms xs) n w1.heap.size w i wr) (fun _ i _ => n - (intOf i).toNat)
  case atStart =>
    exact ⟨0, rfl, Nat.zero_le _, rfl, 0, Nat.zero_le _, rfl, by rw [Ln.fill_zero, ← clls_zero]; exact Blk.new _ _, HB1.out.alloc HS1.out _⟩
  case round =>
    obtain ⟨k, rfl, _, rfl, k', hk, hkk, hblk, hb⟩ := hrel
    obtain rfl : k = k' := by injection hkk with _ h; omega
    clear hkk
    by_cases hlt : k < n
    · have hu := Ln.up_le ms k
      obtain ⟨g, o, rfl, hg, hc⟩ := H.out.at_ hlt
      obtain ⟨g1, o1, rfl, hg1, hc1⟩ := H1.out.at_ (k := Ln.up ms k) (by omega)
      have hd1 := (hb.cell (p := ⟨g1, o1 + Ln.up ms k, none⟩) (World.block_lt_of_cell? w _ hc1)).trans hc1
      have hd := (hb.cell (p := ⟨g, o + k, none⟩) (World.block_lt_of_cell? w _ hc)).trans hc
      obtain ⟨x, hx⟩ : ∃ z, z = xs.getD (Ln.up ms k) 0 := ⟨_, rfl⟩
      rw [← hx] at hd1
      have HX := Lib.hid hx; clear hx hc1
      obtain ⟨q, hq⟩ : ∃ q, q = Ln.up ms k := ⟨_, rfl⟩
      rw [← hq] at hu hd1
      rw [← hq]
      have HQ := Lib.hid hq; clear hq
      obtain ⟨m, hm⟩ : ∃ z, z = ms.getD k 0 := ⟨_, rfl⟩
      rw [← hm] at hd
      have HM := Lib.hid hm; clear hm hc
      have hf := hblk.frozen k
      have hh := hblk.has hk hlt
      have HN := Lib.hid (fun (z : Int) (hz : z = Ln.spreadF ms xs k) => Fills.step (f := Ln.spreadF ms xs) hlt HS1.out hb hblk z hz)
      have HK := Lib.hid (fun (hz : 0 = Ln.spreadF ms xs k) => Fills.skip2 (f := Ln.spreadF ms xs) hlt hb hblk hz)
      clear hblk hb
      by_cases h1 : m = 1
      · subst h1
        go_wp2
        go_roundw
        case rel =>
          have hm := HM.out.symm
          exact ⟨k + 1, by rw [Ln.up_on hm, HQ.out]; go_num, by omega, by go_num, HN.out _ (by rw [Ln.spread_on hm]; exact HX.out)⟩
        case measure => simp [intOf]; omega
      · have e1 : (m == 1) = false := by rw [beq_eq_false_iff_ne]; exact h1
        have HNE := Lib.hid h1
        clear h1
        go_wp2
        go_roundw
        case rel =>
          have hne : ms.getD k 0 ≠ 1 := by rw [← HM.out]; exact HNE.out
          exact ⟨k + 1, by rw [Ln.up_off hne, HQ.out], by omega, by go_num, HK.out (by rw [Ln.spread_off hne])⟩
        case measure => simp [intOf]; omega
    · have hkn : k = n := by omega
      have HALL := Lib.hid (And.intro hblk (And.intro hb hkn)); clear hblk hb hkn
      go_wp2
      go_ret2
      obtain ⟨hblk, hb, rfl⟩ := HALL.out
      rw [Ln.fill_all] at hblk
      exact Ret1.of_blk hblk (Ln.tab_len _ _) HS1.out hn hb
theorem iExpandLanes_any (b : Int) (A : Option Addr) (n c : Nat) (ms : List Int) (B : Nat) (A1 : Option Addr) (n1 c1 : Nat) (xs : List Int) (B1 : Nat) (w : World)
    (hn : n ≤ 1048576) (hn1 : n1 ≤ 1048576) (h : Rd w B A n ms) (h1 : Rd w B1 A1 n1 xs) :
    Calls Try.prog 22 #[.int .i64 b, .slice A n c, .slice A1 n1 c1] w (Ret1 (Ln.expand2 b ms xs).1 (Ln.expand2 b ms xs).2 w) := by
  unfold Ln.expand2
  by_cases hm : Ln.masked b ms xs = true
  · obtain ⟨l1, _, _⟩ := Ln.masked_len hm
    have g0 := h.len
    have g1 := h1.len
    obtain rfl : n1 = n := by omega
    rw [hm]
    exact iExpand_yes b A A1 n1 c c1 ms xs B B1 w hn h h1 hm
  · have hm' : Ln.masked b ms xs = false := by simpa using hm
    have k1 := areMask_any b A A1 n n1 c c1 ms xs B B1 w hn hn1 h h1
    rw [hm'] at k1
    rw [hm']
    have C1 := Lib.hid k1
    clear k1 h h1 hm hm'
    go_enter Try.func22, Try.ntmps22
    go_wp2_with fail
    refine C1.out.mono ?_
    rintro e w1 ⟨rfl, hb⟩
    have HB := Lib.hid hb; clear hb
    go_wp2_with fail
    go_ret2
    exact Ret1.no HB.out
end Go.Proofs.Ytdddhcpdcieacaa.Wds