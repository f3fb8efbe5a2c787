/-
  What the model's draw of statements returns (a row of its own, of so many valid statements) and does to memory, over the translated program.
-/
import Derived.Test.YtbaiaahdjkjjoaaDraw1
import Derived.Test.YtbaiaahdjkjjoaaStW
import Derived.LoopTactic
namespace Go.Proofs.Ytbaiaahdjkjjoaa.Wds
open Go.RowKit
set_option linter.unusedVariables false

theorem grown_far {a w : World} {g : Nat} (h : a.grownBy w (some g)) {p : Addr} (hp : a.heap.size ≤ p.block) (u : Value) : a.grownBy (w.setCell p u) (some g) :=
  ⟨h.os, h.tape, h.output, by rw [size_set3]; exact h.size, fun i hi hne => (Below.heap_setCell w p u i (by omega)).trans (h.block i hi hne)⟩
where size_set3 : (w.setCell p u).heap.size = w.heap.size := by simp [World.setCell]
theorem BlkS.grow {w w' : World} {g sb : Nat} {cs : Array Value} (h : BlkS w g cs) (hg : w.grownBy w' (some sb)) (hne : g ≠ sb) : BlkS w' g cs := (hg.block g h.lt (fun e => hne (by injection e))).trans h
theorem Src.far {w : World} {sb N : Nat} {a : Option Addr} {len cap : Nat} {zs : List Int} (h : Src w sb N a len cap zs) {p : Addr} (hp : sb < p.block) (u : Value) : Src (w.setCell p u) sb N a len cap zs := by
  have hg : w.grownBy (w.setCell p u) (some p.block) := ⟨rfl, rfl, rfl, by simp [World.setCell], fun k hk hne => Below.heap_setCell w p u k (fun e => hne (by rw [e]))⟩
  exact h.grown hg (by intro e; injection e; omega) (by intro r hr; injection hr; omega)
theorem cllS_snoc (ss : List Sc.St) (x : Sc.St) : (cllS (ss ++ [x])).toList = (cllS ss).toList ++ [.int .i64 x.op, .int .i64 x.d, .int .i64 x.a, .int .i64 x.b] := by
  simp [cllS, List.flatMap_append, c4]
theorem size_alloc' (w : World) (o : Obj) : (w.alloc o).heap.size = w.heap.size + 1 := by show (w.heap.push _).size = _; simp
theorem add_none2 (b o j : Nat) : (⟨b, o, none⟩ : Addr).add j = ⟨b, o + j, none⟩ := by
  unfold Addr.add
  by_cases h : j = 0
  · subst h; simp
  · simp [h]
/-- The relation of the loop that draws statements. -/
def DrawingS (n0 N B sb : Nat) (a : Option Addr) (len cap : Nat) (zs : List Int) (w : World) (n v : Value) (wr : World) : Prop :=
  ∃ (k : Nat) (ss : List Sc.St), k ≤ n0 ∧ n = .int .i64 ((n0 - k : Nat) : Int) ∧ ss.length = k ∧ ss.all Sc.ok = true ∧
    wr.ownsRow B 57 4 v k (cllS ss).toList ∧ Src wr sb (N + 8 * k) a len cap zs ∧ Below sb w wr ∧ B ≤ wr.heap.size
/-- What the draw of statements leaves. -/
def DrawnS (n0 N B sb : Nat) (a : Option Addr) (len cap : Nat) (zs : List Int) (w : World) (e : Ending) (w' : World) : Prop :=
  ∃ (v : Value) (ss : List Sc.St), e = .returned v ∧ ss.length = n0 ∧ ss.all Sc.ok = true ∧ w'.ownsRow B 57 4 v n0 (cllS ss).toList ∧ Src w' sb (N + 8 * n0) a len cap zs ∧ Below sb w w'
set_option maxHeartbeats 1000000 in
theorem sized_any (n0 : Nat) (few : Int) (w : World) (sb N : Nat) (a : Option Addr) (len cap : Nat) (zs : List Int) (hn : n0 ≤ 1000) (hf0 : 1 ≤ few) (hf1 : few ≤ 32) (h : Src w sb N a len cap zs) (hN : N < 700000000) :
    Calls Try.prog 48 #[.pointer (some ⟨sb, 0, none⟩), .int .i64 n0, .int .i64 few] w (DrawnS n0 N w.heap.size sb a len cap zs w) := by
  obtain ⟨i0, hi, hz0, hz1, hz2⟩ := info_parts A_infoS
  have HH := Lib.hid h
  have hsb : sb < w.heap.size := by obtain ⟨_, _, _, hb, _⟩ := h; exact lt_of_block hb
  clear h
  go_enter Try.func48, Try.ntmps48
  go_wp2
  go_loopw [1, 7] (fun n v wr => DrawingS n0 N w.heap.size sb a len cap zs w n v wr) (fun n _ _ => (intOf n).toNat)
  case atStart =>
    refine ⟨0, [], Nat.zero_le _, rfl, rfl, rfl, ?_, HH.out.grown (World.grownBy_alloc _ _ none) (by simp) (by intro r hr; cases hr), (Below.refl _ _).alloc (by omega) _, by simp⟩
    refine ⟨rfl, .inr ⟨w.heap.size, 0, #[], rfl, Nat.le_refl _, ?_, Nat.le_refl _, Nat.zero_le _, rfl, rfl⟩⟩
    show (w.heap.push _)[w.heap.size]? = _
    simp
  case round =>
    obtain ⟨k, ss, hk, rfl, hlen, hok, hown, hsrc, hbel, hsz⟩ := hrel
    by_cases hlt : k < n0
    · have hpos : (0 : Int) < ((n0 - k : Nat) : Int) := by omega
      have hle : ((n0 - k : Nat) : Int) ≤ 1000 := by omega
      obtain ⟨c, hc⟩ : ∃ c : Int, c = ((n0 - k : Nat) : Int) := ⟨_, rfl⟩
      rw [← hc] at hpos hle
      have HC := Lib.hid hc
      rw [← hc]; clear hc
      have HSRC := Lib.hid hsrc; clear hsrc
      have HOWN := Lib.hid hown; clear hown
      have HOK := Lib.hid hok; clear hok
      have HLEN := Lib.hid hlen; clear hlen
      have HBEL := Lib.hid hbel; clear hbel
      go_wp2_with fail
      refine (pick_any 18 _ sb (N + 8 * k) a len cap zs HSRC.out (by omega)).mono ?_
      rintro e w1 ⟨z0, rfl, z00, z01, hA⟩
      have hs1 := hA.2.size
      have hown1 := HOWN.out.kept hA.2 (own_ne HOWN.out hsb)
      have HOWN1 := Lib.hid hown1
      have HB1 := Lib.hid (HBEL.out.trans (grown_below hA.2 (by omega) (Nat.le_refl _)))
      have HS1 := Lib.hid hA.1
      have HZ0 := Lib.hid (show 0 ≤ z0 ∧ z0 ≤ 17 from ⟨z00, by have := z01 (by omega); omega⟩)
      have HX1 := Lib.hid (BlkS.new w1 #[.int .i64 z0, .int .i64 0, .int .i64 0, .int .i64 0])
      clear hown1 hA z00 z01
      have hx : sb < w1.heap.size := by omega
      have G1 := Lib.hid (World.grownBy_alloc w1 (.cells #[.int .i64 z0, .int .i64 0, .int .i64 0, .int .i64 0] 57) (some sb))
      have S1 := Lib.hid (HS1.out.grown (World.grownBy_alloc w1 (.cells #[.int .i64 z0, .int .i64 0, .int .i64 0, .int .i64 0] 57) none) (by simp) (by intro r hr; cases hr))
      go_wp2_with fail
      refine (pick_any few _ sb (N + 8 * k + 2) a len cap zs S1.out (by omega)).mono ?_
      rintro e w2 ⟨z1, rfl, z10, z11, hA⟩
      have HZ1 := Lib.hid (show 0 ≤ z1 ∧ z1 ≤ 31 from ⟨z10, by have := z11 hf0; omega⟩)
      have G2 := Lib.hid (grown_far (grown_trans G1.out hA.2) (p := ⟨w1.heap.size, 1, none⟩) (Nat.le_refl _) (.int .i64 z1))
      have S2 := Lib.hid (Src.far hA.1 (p := ⟨w1.heap.size, 1, none⟩) hx (.int .i64 z1))
      have X2 := BlkS.grow HX1.out hA.2 (by omega)
      have q2 := X2.cell 1
      have f2 := X2.frozen 1
      have HX2 := Lib.hid (X2.set_ 1 (.int .i64 z1))
      simp only [List.setIfInBounds_toArray, List.set_cons_succ, List.set_cons_zero] at HX2
      simp at q2
      clear G1 S1 hA z10 z11 X2 HX1
      go_wp2_with fail
      clear q2 f2
      refine (pick_any few _ sb (N + 8 * k + 2 + 2) a len cap zs S2.out (by omega)).mono ?_
      rintro e w3 ⟨z2, rfl, z20, z21, hA⟩
      have HZ2 := Lib.hid (show 0 ≤ z2 ∧ z2 ≤ 31 from ⟨z20, by have := z21 hf0; omega⟩)
      have G3 := Lib.hid (grown_far (grown_trans G2.out hA.2) (p := ⟨w1.heap.size, 2, none⟩) (Nat.le_refl _) (.int .i64 z2))
      have S3 := Lib.hid (Src.far hA.1 (p := ⟨w1.heap.size, 2, none⟩) hx (.int .i64 z2))
      have X3 := BlkS.grow HX2.out hA.2 (by omega)
      have q3 := X3.cell 2
      have f3 := X3.frozen 2
      have HX3 := Lib.hid (X3.set_ 2 (.int .i64 z2))
      simp only [List.setIfInBounds_toArray, List.set_cons_succ, List.set_cons_zero] at HX3
      simp at q3
      clear G2 S2 hA z20 z21 X3 HX2
      go_wp2_with fail
      clear q3 f3
      refine (pick_any few _ sb (N + 8 * k + 2 + 2 + 2) a len cap zs S3.out (by omega)).mono ?_
      rintro e w4 ⟨z3, rfl, z30, z31, hA⟩
      have HZ3 := Lib.hid (show 0 ≤ z3 ∧ z3 ≤ 31 from ⟨z30, by have := z31 hf0; omega⟩)
      have G4 := Lib.hid (grown_far (grown_trans G3.out hA.2) (p := ⟨w1.heap.size, 3, none⟩) (Nat.le_refl _) (.int .i64 z3))
      have S4 := Lib.hid (Src.far hA.1 (p := ⟨w1.heap.size, 3, none⟩) hx (.int .i64 z3))
      have X4 := BlkS.grow HX3.out hA.2 (by omega)
      have q4 := X4.cell 3
      have f4 := X4.frozen 3
      have X5 := X4.set_ 3 (.int .i64 z3)
      simp only [List.setIfInBounds_toArray, List.set_cons_succ, List.set_cons_zero] at X5
      simp at q4
      have p0 := X4.cell 0
      have p1 := X4.cell 1
      have p2 := X4.cell 2
      simp at p0 p1 p2
      have HOWN5 := Lib.hid (HOWN1.out.kept G4.out (own_ne HOWN1.out hsb))
      have HSZ5 := Lib.hid (show w1.heap.size ≤ w4.heap.size by have h := G4.out.size; simp [World.setCell] at h; exact h)
      clear G3 S3 hA z30 z31 X4 X5 HX3
      have HG4 := Lib.hid G4.out
      have HS4 := Lib.hid S4.out
      clear G4 S4
      have HSZ6 := Lib.hid (show (w4.setCell ⟨w1.heap.size, 3, none⟩ (.int .i64 z3)).heap.size = w4.heap.size by simp [World.setCell])
      go_wp2_with (at_builtin; refine wpList_append_own _ rfl _ _ 24 rfl w.heap.size 57 i0 (.agg #[.int .i64 0, .int .i64 0, .int .i64 0, .int .i64 0]) 4 32 Try.underlying24 hi hz0 hz1 hz2 rfl (by decide) _ _ _ rfl (HOWN5.out.alloc _) ⟨w4.heap.size, 0, none⟩ 1 1 [.int .i64 z0, .int .i64 z1, .int .i64 z2, .int .i64 z3] rfl rfl ?c1 ?c2 ?c3 ?c4 ?c5 ?_)
      case c1 =>
        intro j u hj
        have hc := fun i => cell_of_row _ _ i _ _ (0, 0) (heap_alloc_new (w4.setCell ⟨w1.heap.size, 3, none⟩ (.int .i64 z3)) (.cells #[.int .i64 z0, .int .i64 z1, .int .i64 z2, .int .i64 z3] 57))
        rw [HSZ6.out] at hc
        rw [add_none2]
        rw [Nat.zero_add, hc j, ← hj]
        simp
      case c2 => intro u hu; simp at hu; rcases hu with rfl | rfl | rfl | rfl <;> rfl
      case c3 => unfold maxLen; omega
      case c4 => omega
      case c5 => simp [HSZ6.out]; have := HSZ5.out; omega
      intro v' w6 hown6 hgrow _
      go_wp2
      go_roundw
      case rel =>
        have hs6 := hgrow.size
        have hne := own_ne HOWN5.out hsb
        have HSa := HS4.out.grown (World.grownBy_alloc (w4.setCell ⟨w1.heap.size, 3, none⟩ (.int .i64 z3)) (.cells #[.int .i64 z0, .int .i64 z1, .int .i64 z2, .int .i64 z3] 57) none) (by simp) (by intro r hr; cases hr)
        refine ⟨k + 1, ss ++ [⟨z0, z1, z2, z3⟩], by omega, by rw [HC.out]; go_num, by rw [List.length_append, HLEN.out]; rfl, ?_, ?_, ?_, ?_, ?_⟩
        · rw [List.all_append, HOK.out, Bool.true_and]
          have h0 := HZ0.out
          have h1 := HZ1.out
          have h2 := HZ2.out
          have h3 := HZ3.out
          simp [Sc.ok, Sc.isOp, Sc.isCell]
          omega
        · rw [cllS_snoc]; exact hown6
        · exact (HSa.grown hgrow (by rcases hne with h | h <;> (first | (rw [h]; simp) | exact h)) (own_ge HOWN5.out hsb)).more (by omega)
        · have hb5 : Below sb w (w4.setCell ⟨w1.heap.size, 3, none⟩ (.int .i64 z3)) := HB1.out.trans (grown_below HG4.out (by omega) (Nat.le_refl _))
          have hb1 := hb5.alloc (by rw [HSZ6.out]; have := HSZ5.out; omega) (.cells #[.int .i64 z0, .int .i64 z1, .int .i64 z2, .int .i64 z3] 57)
          exact hb1.grown hgrow (by rw [size_alloc', HSZ6.out]; have := HSZ5.out; omega) (fun r hr => Nat.le_of_lt (own_ge HOWN5.out hsb r hr))
        · rw [size_alloc', HSZ6.out] at hs6; have := HSZ5.out; omega
      case measure => simp [intOf]; omega
    · obtain ⟨c, hc⟩ : ∃ c : Int, c = ((n0 - k : Nat) : Int) := ⟨_, rfl⟩
      have hneg : ¬ 0 < c := by omega
      have hkn : k = n0 := by omega
      have HK := Lib.hid hkn; clear hkn
      rw [← hc]; clear hc
      have HALL := Lib.hid (And.intro hlen (And.intro hok (And.intro hown (And.intro hsrc hbel)))); clear hlen hok hown hsrc hbel
      go_wp2
      go_ret
      have hk := HK.out
      subst hk
      exact ⟨_, ss, rfl, HALL.out⟩
/-- Valid statements that were drawn: at most sixteen, in a row that is new. -/
def DrawnC (w : World) (e : Ending) (w' : World) : Prop :=
  ∃ (A : Option Addr) (n c : Nat) (ss : List Sc.St), e = .returned (.slice A n c) ∧ n ≤ c ∧ Sc.valid ss = true ∧ RdS w' w'.heap.size A n ss ∧ Below w.heap.size w w'
theorem rdS_of_row {w : World} {B n : Nat} {v : Value} {ss : List Sc.St} (h : w.ownsRow B 57 4 v n (cllS ss).toList) (hl : ss.length = n) : ∃ A c, v = .slice A n c ∧ n ≤ c ∧ RdS w w.heap.size A n ss := by
  rcases h.2 with ⟨rfl, h0⟩ | ⟨g, cap, cur, rfl, hg, hb, hnc, hcm, hcs, ht⟩
  · subst h0
    exact ⟨none, 0, rfl, Nat.le_refl _, by rw [List.length_eq_zero_iff.1 hl]; exact RdS.nil _ _ _⟩
  · refine ⟨_, cap, rfl, hnc, hl, fun hn => ⟨g, 0, rfl, lt_of_block hb, fun j s hs => ?_⟩⟩
    have hj : j < ss.length := (List.getElem?_eq_some_iff.1 hs).1
    have hc := cllS_at hs
    have key : ∀ i, i < 4 → w.cell? ⟨g, 0 + j * 4 + i, none⟩ = (cllS ss)[j * 4 + i]? := by
      intro i hi4
      have e1 : w.cell? ⟨g, 0 + j * 4 + i, none⟩ = cur[j * 4 + i]? := by
        rw [Nat.zero_add]; exact cell_of_row w g _ cur _ (0, 0) hb
      have e2 : (cur.toList.take (n * 4))[j * 4 + i]? = (cllS ss).toList[j * 4 + i]? := by rw [ht]
      rw [List.getElem?_take_of_lt (by omega), Array.getElem?_toList, Array.getElem?_toList] at e2
      rw [e1, e2]
    exact ⟨(key 0 (by omega)).trans hc.1, (key 1 (by omega)).trans hc.2.1, (key 2 (by omega)).trans hc.2.2.1, (key 3 (by omega)).trans hc.2.2.2⟩
theorem drawOk_any (w : World) (sb N : Nat) (a : Option Addr) (len cap : Nat) (zs : List Int) (h : Src w sb N a len cap zs) (hN : N < 600000000) :
    Calls Try.prog 30 #[.pointer (some ⟨sb, 0, none⟩)] w fun e w' => ∃ (A : Option Addr) (n c : Nat) (ss : List Sc.St), e = .returned (.slice A n c) ∧ n ≤ c ∧ Sc.valid ss = true ∧ RdS w' w'.heap.size A n ss ∧ Below sb w w' := by
  have hsb : sb < w.heap.size := by obtain ⟨_, _, _, hb, _⟩ := h; exact lt_of_block hb
  have HH := Lib.hid h; clear h
  go_enter Try.func30, Try.ntmps30
  go_wp2_with fail
  refine (pick_any 8 _ sb N a len cap zs HH.out (by omega)).mono ?_
  rintro e w1 ⟨z, rfl, z0, z1, hA⟩
  have HZ := Lib.hid (show 0 ≤ z ∧ z ≤ 7 from ⟨z0, by have := z1 (by omega); omega⟩)
  have HA1 := Lib.hid hA; clear hA z0 z1
  go_wp2_with fail
  refine (one_any 16 _ sb (N + 2) a len cap zs HA1.out.1 (by omega)).mono ?_
  rintro e w2 ⟨b, rfl, hA⟩
  have HA2 := Lib.hid hA
  have HS2 := Lib.hid (And.intro HA1.out.2.size hA.2.size)
  clear hA
  have fin : ∀ (m : Nat), m ≤ 16 → ∀ few, 3 ≤ few → few ≤ 14 → ∀ w3, After w2 sb (N + 2 + 2 + 2) a len cap zs w3 → Calls Try.prog 48 #[.pointer (some ⟨sb, 0, none⟩), .int .i64 m, .int .i64 few] w3 fun e w' => ∃ (A : Option Addr) (n c : Nat) (ss : List Sc.St), e = .returned (.slice A n c) ∧ n ≤ c ∧ Sc.valid ss = true ∧ RdS w' w'.heap.size A n ss ∧ Below sb w w' := by
    intro m hm few h3 h14 w3 hA3
    refine (sized_any m few w3 sb _ a len cap zs (by omega) (by omega) (by omega) hA3.1 (by omega)).mono ?_
    rintro e w4 ⟨v, ss, rfl, hl, hok, hrow, _, hb⟩
    obtain ⟨A, c, rfl, hnc, hr⟩ := rdS_of_row hrow hl
    have s1 := HS2.out.1
    have s2 := HS2.out.2
    refine ⟨A, m, c, ss, rfl, hnc, ?_, hr, ?_⟩
    · unfold Sc.valid; rw [hok, hl, decide_eq_true hm]; rfl
    · exact ((((Below.refl sb w).trans (grown_below HA1.out.2 (by omega) (Nat.le_refl _))).trans (grown_below HA2.out.2 (by omega) (Nat.le_refl _))).trans (grown_below hA3.2 (by omega) (Nat.le_refl _))).trans hb
  have FIN := Lib.hid fin; clear fin
  obtain ⟨m, rfl⟩ := Int.eq_ofNat_of_zero_le HZ.out.1
  cases b
  · go_wp2_with fail
    refine (pick_any 12 _ sb (N + 2 + 2) a len cap zs HA2.out.1 (by omega)).mono ?_
    rintro e w3 ⟨y, rfl, y0, y1, hA⟩
    have HY := Lib.hid (show 3 ≤ 3 + y ∧ 3 + y ≤ 14 from ⟨by omega, by have := y1 (by omega); omega⟩)
    have HA3 := Lib.hid hA
    have y2 : y ≤ 11 := by have := y1 (by omega); omega
    clear hA y1
    go_wp2_with fail
    refine (FIN.out m (by have := HZ.out; omega) _ HY.out.1 HY.out.2 w3 HA3.out).mono ?_
    rintro e w4 ⟨A, n, c, ss, rfl, h1, h2, h3, h4⟩
    have HF := Lib.hid (And.intro h1 (And.intro h2 (And.intro h3 h4))); clear h1 h2 h3 h4
    go_wp2
    go_ret
    exact ⟨A, n, c, ss, rfl, HF.out⟩
  · go_wp2_with fail
    refine (pick_any 12 _ sb (N + 2 + 2) a len cap zs HA2.out.1 (by omega)).mono ?_
    rintro e w3 ⟨y, rfl, y0, y1, hA⟩
    have HY := Lib.hid (show 3 ≤ 3 + y ∧ 3 + y ≤ 14 from ⟨by omega, by have := y1 (by omega); omega⟩)
    have HA3 := Lib.hid hA
    have y2 : y ≤ 11 := by have := y1 (by omega); omega
    clear hA y1
    go_wp2_with fail
    refine (FIN.out 16 (by omega) _ HY.out.1 HY.out.2 w3 HA3.out).mono ?_
    rintro e w4 ⟨A, n, c, ss, rfl, h1, h2, h3, h4⟩
    have HF := Lib.hid (And.intro h1 (And.intro h2 (And.intro h3 h4))); clear h1 h2 h3 h4
    go_wp2
    go_ret
    exact ⟨A, n, c, ss, rfl, HF.out⟩
theorem b10code_any (a : Option Addr) (len cap : Nat) (zs : List Int) (w : World) (h : IsRow .u8 w a len cap zs) : Calls Try.prog 10 #[.slice a len cap] w (DrawnC w) := by
  have HS := Lib.hid (src_new w a len cap zs h); clear h
  go_enter Try.func10, Try.ntmps10
  go_wp2_with fail
  refine (from_any _ _ _ _).mono ?_
  rintro e w' ⟨rfl, rfl⟩
  go_wp2_with fail
  refine (drawOk_any _ w.heap.size 0 a len cap zs HS.out (by omega)).mono ?_
  rintro e w4 ⟨A, n, c, ss, rfl, h1, h2, h3, h4⟩
  have HF := Lib.hid (And.intro h1 (And.intro h2 (And.intro h3 (((Below.refl w.heap.size w).alloc (Nat.le_refl _) _).trans h4)))); clear h1 h2 h3 h4
  go_wp2
  go_ret
  exact ⟨A, n, c, ss, rfl, HF.out⟩
end Go.Proofs.Ytbaiaahdjkjjoaa.Wds
