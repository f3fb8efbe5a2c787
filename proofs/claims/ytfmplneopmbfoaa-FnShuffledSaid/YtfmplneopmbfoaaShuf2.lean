/-
  ShuffleLanes, ThenShuffle, InverseShuffle and PickLanes: the code's and the model's functions; one contract each.
-/
import Derived.Test.YtfmplneopmbfoaaShuf
import Derived.Test.YtfmplneopmbfoaaLan2
namespace Go.Proofs.Ytfmplneopmbfoaa.Wds
open Go.RowKit
set_option linter.unusedVariables false

theorem beq_nat {n m : Nat} (h : n ≠ m) : ((n : Int) == (m : Int)) = false ∧ ((n : Int) != (m : Int)) = true := by
  constructor
  · simp; omega
  · simp; omega
set_option maxHeartbeats 400000 in
theorem iShuffleLanes_any (b : Int) (A1 : Option Addr) (n1 c1 : Nat) (s : List Int) (B1 : Nat) (A2 : Option Addr) (n2 c2 : Nat) (a : List Int) (B2 : Nat) (w : World)
    (hn1 : n1 ≤ 1048576) (hn2 : n2 ≤ 1048576) (h1 : Rd w B1 A1 n1 s) (h2 : Rd w B2 A2 n2 a) :
    Calls Try.prog 16 #[.int .i64 b, .slice A1 n1 c1, .slice A2 n2 c2] w (Ret1 (Ln.shuffle b s a).1 (Ln.shuffle b s a).2 w) := by
  unfold Ln.shuffle
  by_cases he : n1 = n2
  · subst he
    have hl : (s.length == a.length) = true := by rw [h1.len, h2.len]; simp
    have k1 := iIsShuffle_any A1 n1 c1 s B1 w hn1 h1
    have k2 := fun W (hb : Below w.heap.size w W) => isVec_any b A2 n1 c2 a B2 W hn2 (h2.below hb)
    rw [hl, Bool.and_true]
    have hsh := fun (h : Ln.shuf s = true) => Ln.shuf_idxs h
    rw [h1.len] at hsh
    have k3 := fun (h : Ln.shuf s = true) W (hb : Below w.heap.size w W) => elems_any A2 A1 n1 n1 c2 c1 a s B2 B1 W (by omega) hn1 (h2.below hb) (h1.below hb) (hsh h)
    obtain ⟨u, hu⟩ : ∃ u, u = Ln.shuf s := ⟨_, rfl⟩
    obtain ⟨v, hv⟩ : ∃ v, v = Ln.vec b a := ⟨_, rfl⟩
    rw [← hu] at k1 k3 ⊢
    rw [← hv]
    simp only [← hv] at k2
    have C1 := Lib.hid k1
    have C2 := Lib.hid k2
    have C3 := Lib.hid k3
    have e1 : ((n1 : Int) == (n1 : Int)) = true := by simp
    have e2 : ((n1 : Int) != (n1 : Int)) = false := by simp
    clear h1 h2 hu hv hl k1 k2 k3 hsh
    cases u
    · go_enter Try.func16, Try.ntmps16
      go_wp2_with fail
      refine C1.out.mono ?_
      rintro e w1 ⟨rfl, hb⟩
      have HB := Lib.hid hb; clear hb
      go_wp2_with fail
      go_ret2
      exact Ret1.no HB.out
    · cases v
      · go_enter Try.func16, Try.ntmps16
        go_wp2_with fail
        refine C1.out.mono ?_
        rintro e w1 ⟨rfl, hb⟩
        have HB := Lib.hid hb; clear hb
        go_wp2_with fail
        refine (C2.out _ HB.out).mono ?_
        rintro e w2 ⟨rfl, hb⟩
        have HB2 := Lib.hid (HB.out.trans (hb.mono HB.out.size)); clear hb
        go_wp2_with fail
        go_ret2
        exact Ret1.no HB2.out
      · go_enter Try.func16, Try.ntmps16
        go_wp2_with fail
        refine C1.out.mono ?_
        rintro e w1 ⟨rfl, hb⟩
        have HB := Lib.hid hb; clear hb
        go_wp2_with fail
        refine (C2.out _ HB.out).mono ?_
        rintro e w2 ⟨rfl, hb⟩
        have HB2 := Lib.hid (HB.out.trans (hb.mono HB.out.size)); clear hb
        go_wp2_with fail
        refine (C3.out (by trivial) _ HB2.out).mono ?_
        rintro e w3 ⟨A3, n3, c3, rfl, ho, hn3, hc3, hb⟩
        have HF := Lib.hid (And.intro (ho.more HB2.out.size (Nat.le_refl _)) (HB2.out.trans (hb.mono HB2.out.size))); clear ho hb
        go_wp2_with fail
        go_ret2
        exact ⟨A3, n3, c3, rfl, HF.out.1, hn3, HF.out.2⟩
  · have hl : (s.length == a.length) = false := by rw [h1.len, h2.len]; simpa using he
    rw [hl, Bool.and_false]
    obtain ⟨e1, e2⟩ := beq_nat he
    clear h1 h2 hl he
    go_enter Try.func16, Try.ntmps16
    go_wp2_with fail
    go_ret2
    exact Ret1.no (Below.refl _ _)
set_option maxHeartbeats 400000 in
theorem iThenShuffle_any (A1 : Option Addr) (n1 c1 : Nat) (s : List Int) (B1 : Nat) (A2 : Option Addr) (n2 c2 : Nat) (a : List Int) (B2 : Nat) (w : World)
    (hn1 : n1 ≤ 1048576) (hn2 : n2 ≤ 1048576) (h1 : Rd w B1 A1 n1 s) (h2 : Rd w B2 A2 n2 a) :
    Calls Try.prog 17 #[.slice A1 n1 c1, .slice A2 n2 c2] w (Ret1 (Ln.thenS s a).1 (Ln.thenS s a).2 w) := by
  unfold Ln.thenS
  by_cases he : n1 = n2
  · subst he
    have hl : (s.length == a.length) = true := by rw [h1.len, h2.len]; simp
    have k1 := iIsShuffle_any A1 n1 c1 s B1 w hn1 h1
    have k2 := fun W (hb : Below w.heap.size w W) => iIsShuffle_any A2 n1 c2 a B2 W hn2 (h2.below hb)
    rw [hl, Bool.and_true]
    have hsh := fun (h : Ln.shuf a = true) => Ln.shuf_idxs h
    rw [h2.len] at hsh
    have k3 := fun (h : Ln.shuf a = true) W (hb : Below w.heap.size w W) => elems_any A1 A2 n1 n1 c1 c2 s a B1 B2 W (by omega) hn1 (h1.below hb) (h2.below hb) (hsh h)
    obtain ⟨u, hu⟩ : ∃ u, u = Ln.shuf s := ⟨_, rfl⟩
    obtain ⟨v, hv⟩ : ∃ v, v = Ln.shuf a := ⟨_, rfl⟩
    rw [← hu] at k1 ⊢
    rw [← hv] at k3 ⊢
    simp only [← hv] at k2
    have C1 := Lib.hid k1
    have C2 := Lib.hid k2
    have C3 := Lib.hid k3
    have e1 : ((n1 : Int) == (n1 : Int)) = true := by simp
    have e2 : ((n1 : Int) != (n1 : Int)) = false := by simp
    clear h1 h2 hu hv hl k1 k2 k3 hsh
    cases u
    · go_enter Try.func17, Try.ntmps17
      go_wp2_with fail
      refine C1.out.mono ?_
      rintro e w1 ⟨rfl, hb⟩
      have HB := Lib.hid hb; clear hb
      go_wp2_with fail
      go_ret2
      exact Ret1.no HB.out
    · cases v
      · go_enter Try.func17, Try.ntmps17
        go_wp2_with fail
        refine C1.out.mono ?_
        rintro e w1 ⟨rfl, hb⟩
        have HB := Lib.hid hb; clear hb
        go_wp2_with fail
        refine (C2.out _ HB.out).mono ?_
        rintro e w2 ⟨rfl, hb⟩
        have HB2 := Lib.hid (HB.out.trans (hb.mono HB.out.size)); clear hb
        go_wp2_with fail
        go_ret2
        exact Ret1.no HB2.out
      · go_enter Try.func17, Try.ntmps17
        go_wp2_with fail
        refine C1.out.mono ?_
        rintro e w1 ⟨rfl, hb⟩
        have HB := Lib.hid hb; clear hb
        go_wp2_with fail
        refine (C2.out _ HB.out).mono ?_
        rintro e w2 ⟨rfl, hb⟩
        have HB2 := Lib.hid (HB.out.trans (hb.mono HB.out.size)); clear hb
        go_wp2_with fail
        refine (C3.out (by trivial) _ HB2.out).mono ?_
        rintro e w3 ⟨A3, n3, c3, rfl, ho, hn3, hc3, hb⟩
        have HF := Lib.hid (And.intro (ho.more HB2.out.size (Nat.le_refl _)) (HB2.out.trans (hb.mono HB2.out.size))); clear ho hb
        go_wp2_with fail
        go_ret2
        exact ⟨A3, n3, c3, rfl, HF.out.1, hn3, HF.out.2⟩
  · have hl : (s.length == a.length) = false := by rw [h1.len, h2.len]; simpa using he
    rw [hl, Bool.and_false]
    obtain ⟨e1, e2⟩ := beq_nat he
    clear h1 h2 hl he
    go_enter Try.func17, Try.ntmps17
    go_wp2_with fail
    go_ret2
    exact Ret1.no (Below.refl _ _)
set_option maxHeartbeats 400000 in
theorem sShuffleLanes_any (b : Int) (A1 : Option Addr) (n1 c1 : Nat) (s : List Int) (B1 : Nat) (A2 : Option Addr) (n2 c2 : Nat) (a : List Int) (B2 : Nat) (w : World)
    (hn1 : n1 ≤ 1048576) (hn2 : n2 ≤ 1048576) (h1 : Rd w B1 A1 n1 s) (h2 : Rd w B2 A2 n2 a) :
    Calls Try.prog 31 #[.int .i64 b, .slice A1 n1 c1, .slice A2 n2 c2] w (Ret1 (Ln.shuffle b s a).1 (Ln.shuffle b s a).2 w) := by
  unfold Ln.shuffle
  have k1 := sShuf_any A1 n1 c1 s B1 w hn1 h1
  have k2 := fun W (hb : Below w.heap.size w W) => sIs_any b A2 n2 c2 a B2 W hn2 (h2.below hb)
  have hsh := fun (h : Ln.shuf s = true) => Ln.shuf_idxs h
  rw [h1.len] at hsh
  have hlen : (s.length == a.length) = (n1 == n2) := by rw [h1.len, h2.len]
  have k3 := fun (h : Ln.shuf s = true) (he : n1 = n2) W (hb : Below w.heap.size w W) => sApply_any A2 A1 n2 n1 c2 c1 a s B2 B1 W (by omega) hn1 (h2.below hb) (h1.below hb) (by rw [← he]; exact hsh h)
  obtain ⟨u, hu⟩ : ∃ u, u = Ln.shuf s := ⟨_, rfl⟩
  obtain ⟨v, hv⟩ : ∃ v, v = Ln.vec b a := ⟨_, rfl⟩
  rw [hlen]
  rw [← hu] at k1 k3 ⊢
  rw [← hv]
  simp only [← hv] at k2
  have C1 := Lib.hid k1
  have C2 := Lib.hid k2
  have C3 := Lib.hid k3
  clear h1 h2 hu hv k1 k2 k3 hsh hlen
  cases u
  · go_enter Try.func31, Try.ntmps31
    go_wp2_with fail
    refine C1.out.mono ?_
    rintro e w1 ⟨rfl, hb⟩
    have HB := Lib.hid hb; clear hb
    go_wp2_with fail
    go_ret2
    exact Ret1.no HB.out
  · cases v
    · go_enter Try.func31, Try.ntmps31
      go_wp2_with fail
      refine C1.out.mono ?_
      rintro e w1 ⟨rfl, hb⟩
      have HB := Lib.hid hb; clear hb
      go_wp2_with fail
      refine (C2.out _ HB.out).mono ?_
      rintro e w2 ⟨rfl, hb⟩
      have HB2 := Lib.hid (HB.out.trans (hb.mono HB.out.size)); clear hb
      go_wp2_with fail
      go_ret2
      exact Ret1.no HB2.out
    · by_cases he : n1 = n2
      · subst he
        have hl : (n1 == n1) = true := by simp
        rw [hl]
        have e1 : ((n1 : Int) == (n1 : Int)) = true := by simp
        have e2 : ((n1 : Int) != (n1 : Int)) = false := by simp
        clear hl
        go_enter Try.func31, Try.ntmps31
        go_wp2_with fail
        refine C1.out.mono ?_
        rintro e w1 ⟨rfl, hb⟩
        have HB := Lib.hid hb; clear hb
        go_wp2_with fail
        refine (C2.out _ HB.out).mono ?_
        rintro e w2 ⟨rfl, hb⟩
        have HB2 := Lib.hid (HB.out.trans (hb.mono HB.out.size)); clear hb
        go_wp2_with fail
        refine (C3.out (by trivial) (by trivial) _ HB2.out).mono ?_
        rintro e w3 ⟨A3, n3, c3, rfl, ho, hn3, hc3, hb⟩
        have HF := Lib.hid (And.intro (ho.more HB2.out.size (Nat.le_refl _)) (HB2.out.trans (hb.mono HB2.out.size))); clear ho hb
        go_wp2_with fail
        go_ret2
        exact ⟨A3, n3, c3, rfl, HF.out.1, hn3, HF.out.2⟩
      · obtain ⟨e1, e2⟩ := beq_nat he
        have hl : (n1 == n2) = false := by simpa using he
        rw [hl]
        clear hl he
        go_enter Try.func31, Try.ntmps31
        go_wp2_with fail
        refine C1.out.mono ?_
        rintro e w1 ⟨rfl, hb⟩
        have HB := Lib.hid hb; clear hb
        go_wp2_with fail
        refine (C2.out _ HB.out).mono ?_
        rintro e w2 ⟨rfl, hb⟩
        have HB2 := Lib.hid (HB.out.trans (hb.mono HB.out.size)); clear hb
        go_wp2_with fail
        go_ret2
        exact Ret1.no HB2.out
set_option maxHeartbeats 400000 in
theorem sThenShuffle_any (A1 : Option Addr) (n1 c1 : Nat) (s : List Int) (B1 : Nat) (A2 : Option Addr) (n2 c2 : Nat) (a : List Int) (B2 : Nat) (w : World)
    (hn1 : n1 ≤ 1048576) (hn2 : n2 ≤ 1048576) (h1 : Rd w B1 A1 n1 s) (h2 : Rd w B2 A2 n2 a) :
    Calls Try.prog 34 #[.slice A1 n1 c1, .slice A2 n2 c2] w (Ret1 (Ln.thenS s a).1 (Ln.thenS s a).2 w) := by
  unfold Ln.thenS
  have k1 := sShuf_any A1 n1 c1 s B1 w hn1 h1
  have k2 := fun W (hb : Below w.heap.size w W) => sShuf_any A2 n2 c2 a B2 W hn2 (h2.below hb)
  have hsh := fun (h : Ln.shuf a = true) => Ln.shuf_idxs h
  rw [h2.len] at hsh
  have hlen : (s.length == a.length) = (n1 == n2) := by rw [h1.len, h2.len]
  have k3 := fun (h : Ln.shuf a = true) (he : n1 = n2) W (hb : Below w.heap.size w W) => sApply_any A1 A2 n1 n2 c1 c2 s a B1 B2 W (by omega) hn2 (h1.below hb) (h2.below hb) (by rw [he]; exact hsh h)
  obtain ⟨u, hu⟩ : ∃ u, u = Ln.shuf s := ⟨_, rfl⟩
  obtain ⟨v, hv⟩ : ∃ v, v = Ln.shuf a := ⟨_, rfl⟩
  rw [hlen]
  rw [← hu] at k1 ⊢
  rw [← hv] at k3 ⊢
  simp only [← hv] at k2
  have C1 := Lib.hid k1
  have C2 := Lib.hid k2
  have C3 := Lib.hid k3
  clear h1 h2 hu hv k1 k2 k3 hsh hlen
  cases u
  · go_enter Try.func34, Try.ntmps34
    go_wp2_with fail
    refine C1.out.mono ?_
    rintro e w1 ⟨rfl, hb⟩
    have HB := Lib.hid hb; clear hb
    go_wp2_with fail
    go_ret2
    exact Ret1.no HB.out
  · cases v
    · go_enter Try.func34, Try.ntmps34
      go_wp2_with fail
      refine C1.out.mono ?_
      rintro e w1 ⟨rfl, hb⟩
      have HB := Lib.hid hb; clear hb
      go_wp2_with fail
      refine (C2.out _ HB.out).mono ?_
      rintro e w2 ⟨rfl, hb⟩
      have HB2 := Lib.hid (HB.out.trans (hb.mono HB.out.size)); clear hb
      go_wp2_with fail
      go_ret2
      exact Ret1.no HB2.out
    · by_cases he : n1 = n2
      · subst he
        have hl : (n1 == n1) = true := by simp
        rw [hl]
        have e1 : ((n1 : Int) == (n1 : Int)) = true := by simp
        have e2 : ((n1 : Int) != (n1 : Int)) = false := by simp
        clear hl
        go_enter Try.func34, Try.ntmps34
        go_wp2_with fail
        refine C1.out.mono ?_
        rintro e w1 ⟨rfl, hb⟩
        have HB := Lib.hid hb; clear hb
        go_wp2_with fail
        refine (C2.out _ HB.out).mono ?_
        rintro e w2 ⟨rfl, hb⟩
        have HB2 := Lib.hid (HB.out.trans (hb.mono HB.out.size)); clear hb
        go_wp2_with fail
        refine (C3.out (by trivial) (by trivial) _ HB2.out).mono ?_
        rintro e w3 ⟨A3, n3, c3, rfl, ho, hn3, hc3, hb⟩
        have HF := Lib.hid (And.intro (ho.more HB2.out.size (Nat.le_refl _)) (HB2.out.trans (hb.mono HB2.out.size))); clear ho hb
        go_wp2_with fail
        go_ret2
        exact ⟨A3, n3, c3, rfl, HF.out.1, hn3, HF.out.2⟩
      · obtain ⟨e1, e2⟩ := beq_nat he
        have hl : (n1 == n2) = false := by simpa using he
        rw [hl]
        clear hl he
        go_enter Try.func34, Try.ntmps34
        go_wp2_with fail
        refine C1.out.mono ?_
        rintro e w1 ⟨rfl, hb⟩
        have HB := Lib.hid hb; clear hb
        go_wp2_with fail
        refine (C2.out _ HB.out).mono ?_
        rintro e w2 ⟨rfl, hb⟩
        have HB2 := Lib.hid (HB.out.trans (hb.mono HB.out.size)); clear hb
        go_wp2_with fail
        go_ret2
        exact Ret1.no HB2.out
theorem sIsShuffle_any (A : Option Addr) (n c : Nat) (zs : List Int) (B : Nat) (w : World) (hn : n ≤ 1048576) (h : Rd w B A n zs) :
    Calls Try.prog 28 #[.slice A n c] w (RetB (Ln.shuf zs) w) := by
  have C := Lib.hid (sShuf_any A n c zs B w hn h); clear h
  go_enter Try.func28, Try.ntmps28
  go_wp2_with (go_at_call 63; refine C.out.mono ?_; rintro e w' ⟨rfl, hb⟩)
  go_ret
  exact ⟨rfl, hb⟩
end Go.Proofs.Ytfmplneopmbfoaa.Wds
