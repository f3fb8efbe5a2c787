/-
  The laws' helpers over lists of statements: a copy, the test of equality, the size, marks; one contract each; and a region that draws its order and whose callees may make memory, walked once.
-/
import Derived.Test.YtnbcobhcemjbnaaDoorLstS
import Derived.Test.YtnbcobhcemjbnaaDoorLstW
import Derived.Handy
namespace Go.Proofs.YtnbcobhcemjbnaaDoor.Wds
open Go.RowKit
set_option linter.unusedVariables false

theorem toSt_any (p d a b : Int) (w : World) :
    Calls Tryd.prog 54 #[.agg #[.int .i64 p, .int .i64 d, .int .i64 a, .int .i64 b]] w fun e w' => e = .returned (.agg #[.int .i64 p, .int .i64 d, .int .i64 a, .int .i64 b]) ∧ Below w.heap.size w w' := by
  go_enter Tryd.func54, Tryd.ntmps54
  go_wp2
  go_returns
  refine ⟨rfl, ?_⟩
  go_grown
theorem eqSt_same (p d a b : Int) (w : World) :
    Calls Tryd.prog 60 #[.agg #[.int .i64 p, .int .i64 d, .int .i64 a, .int .i64 b], .agg #[.int .i64 p, .int .i64 d, .int .i64 a, .int .i64 b]] w fun e w' => e = .returned (.bool true) ∧ Below w.heap.size w w' := by
  go_enter Tryd.func60, Tryd.ntmps60
  go_wp2
  go_returns
  refine ⟨rfl, ?_⟩
  go_grown
theorem szS_in (A : Option Addr) (n c : Nat) (w : World) (left : Int) (hn : (n : Int) ≤ left) (h1 : left ≤ 1048576) :
    Calls Tryd.prog 16 #[.slice A n c, .int .i64 left] w fun e w' => e = .returned (.int .i64 (left - n)) ∧ w = w' := by
  have e1 : ¬ (left - (n : Int) < 0) := by omega
  go_enter Tryd.func16, Tryd.ntmps16
  go_wp2
  go_returns
  exact ⟨rfl, rfl⟩
theorem szS_out (A : Option Addr) (n c : Nat) (w : World) (left : Int) (hn : left < (n : Int)) (h0 : 0 ≤ left) (hb : n ≤ 9223372036854775807) :
    Calls Tryd.prog 16 #[.slice A n c, .int .i64 left] w fun e w' => e = .returned (.int .i64 (-1)) ∧ w = w' := by
  have e1 : (left - (n : Int) < 0) := by omega
  go_enter Tryd.func16, Tryd.ntmps16
  go_wp2
  go_returns
  exact ⟨rfl, rfl⟩
/-- make([]impl.Stmt, n): one new block of n statements of zeros. -/
theorem wpList_make_st {P : Program} (w : World) {ops : Array Oper} {rest : List Oper} {o : Oper} {a : Act} {Q : Exit → Act → World → Prop}
    (hg : o.guard = none) (l c : Operand) (t : TypeId) (hop : o.op = Op.makeSlice t l c)
    (i : TypeInfo) (h1 : P.underlying t = some (.slice 80)) (h2 : P.info? 80 = some i) (h3 : i.zero = some (.agg #[.int .i64 0, .int .i64 0, .int .i64 0, .int .i64 0])) (h4 : i.size = 4) (h5 : i.bytes = 32)
    (kl kc : IntKind) (L C : Int) (n : Nat) (hl : a.eval l = .int kl L) (hc : a.eval c = .int kc C) (hL : L = (n : Int)) (hC : C = (n : Int)) (b2 : n ≤ 1099511627776)
    (hK : wpList P ops Q rest (a.put o.dst (.slice (some ⟨w.heap.size, 0, none⟩) n n)) (w.alloc (.cells (cllS (List.replicate n Sc.zero)) 80))) :
    wpList P ops Q (o :: rest) a w := by
  refine wpList_plain hg fun K hK' => ?_
  subst hL
  subst hC
  have hrun := run_make (P := P) w t 80 i (.agg #[.int .i64 0, .int .i64 0, .int .i64 0, .int .i64 0]) h1 h2 h3 kl kc (n : Int) (n : Int) (by omega) (by omega) (by rw [h5]; omega) (by omega)
  have e : madeCells (Value.agg #[.int .i64 0, .int .i64 0, .int .i64 0, .int .i64 0]).cells ((n : Int).toNat * i.size) = cllS (List.replicate n Sc.zero) := by
    rw [h4]
    refine Array.ext_getElem? fun j => ?_
    by_cases hj : j < n * 4
    · obtain ⟨k, r, hr, rfl⟩ : ∃ k r, r < 4 ∧ j = k * 4 + r := ⟨j / 4, j % 4, by omega, by omega⟩
      have hk : k < n := by omega
      rw [show (cllS (List.replicate n Sc.zero))[k * 4 + r]? = ((List.replicate n Sc.zero)[k]?).bind fun s => (c4 s)[r]? by rw [cllS, List.getElem?_toArray, flat_get _ k r hr]]
      rw [List.getElem?_replicate, if_pos hk]
      have : r = 0 ∨ r = 1 ∨ r = 2 ∨ r = 3 := by omega
      have hr : (Array.range ((n : Int).toNat * 4))[k * 4 + r]? = some (k * 4 + r) := by rw [Array.getElem?_eq_getElem (by simp; omega)]; simp
      rcases this with rfl | rfl | rfl | rfl
      · simp only [madeCells, Array.getElem?_map, hr]; rw [Option.map_some]; simp [Value.cells, c4, Sc.zero]
      · simp only [madeCells, Array.getElem?_map, hr]; rw [Option.map_some]; simp [Value.cells, c4, Sc.zero, show (k * 4 + 1) % 4 = 1 by omega]
      · simp only [madeCells, Array.getElem?_map, hr]; rw [Option.map_some]; simp [Value.cells, c4, Sc.zero, show (k * 4 + 2) % 4 = 2 by omega]
      · simp only [madeCells, Array.getElem?_map, hr]; rw [Option.map_some]; simp [Value.cells, c4, Sc.zero, show (k * 4 + 3) % 4 = 3 by omega]
    · rw [Array.getElem?_eq_none (by simp [madeCells]; omega), Array.getElem?_eq_none (by rw [cllS_size]; simp; omega)]
  rw [e] at hrun
  unfold Oper.wp
  simp [execOp, hop, hl, hc, hrun, Result.andThen]
  exact hK' _ _ hK
theorem A_infoS : (Tryd.prog.info? 80).map (fun i => (i.zero, i.size, i.bytes)) = some (some (.agg #[.int .i64 0, .int .i64 0, .int .i64 0, .int .i64 0]), 4, 32) := by kernel_rfl
/-- The list after k of its n places have been filled. -/
def fillS (ss : List Sc.St) (k : Nat) : List Sc.St := ss.take k ++ List.replicate (ss.length - k) Sc.zero
theorem fillS_len (ss : List Sc.St) (k : Nat) (h : k ≤ ss.length) : (fillS ss k).length = ss.length := by simp [fillS]; omega
theorem fillS_zero (ss : List Sc.St) : fillS ss 0 = List.replicate ss.length Sc.zero := by simp [fillS]
theorem fillS_all (ss : List Sc.St) : fillS ss ss.length = ss := by simp [fillS]
theorem nth_get {ss : List Sc.St} {k : Nat} (h : k < ss.length) : ss[k]? = some (Sc.nth ss k) := by
  rw [Sc.nth, List.getD_eq_getElem?_getD, List.getElem?_eq_getElem h]; rfl
theorem fillS_set (ss : List Sc.St) (k : Nat) (h : k < ss.length) : (fillS ss k).set k (Sc.nth ss k) = fillS ss (k + 1) := by
  unfold fillS
  have hl : (ss.take k).length = k := by simp; omega
  have hn : Sc.nth ss k = ss[k] := by rw [Sc.nth, List.getD_eq_getElem?_getD, List.getElem?_eq_getElem h]; rfl
  rw [List.set_append_right _ _ (by omega), hl, Nat.sub_self, show ss.length - k = (ss.length - (k + 1)) + 1 by omega, List.replicate_succ, List.set_cons_zero, hn, List.take_succ_eq_append_getElem h, List.append_assoc]
  rfl
/-- A copy of statements is returned: a new row of its own. -/
def CopiedS (n : Nat) (ss : List Sc.St) (w : World) (e : Ending) (w' : World) : Prop :=
  ∃ g, e = .returned (.slice (some ⟨g, 0, none⟩) n n) ∧ OwnS w' w.heap.size w'.heap.size (some ⟨g, 0, none⟩) n ss ∧ Below w.heap.size w w'
theorem below_set4 {B : Nat} {a w : World} (h : Below B a w) {g i : Nat} (hg : B ≤ g) (v0 v1 v2 v3 : Value) : Below B a ((((w.setCell ⟨g, i, none⟩ v0).setCell ⟨g, i + 1, none⟩ v1).setCell ⟨g, i + 2, none⟩ v2).setCell ⟨g, i + 3, none⟩ v3) :=
  (((h.setCell (p := ⟨g, i, none⟩) hg _).setCell (p := ⟨g, i + 1, none⟩) hg _).setCell (p := ⟨g, i + 2, none⟩) hg _).setCell (p := ⟨g, i + 3, none⟩) hg _
set_option maxHeartbeats 400000 in
theorem toSS_any (A : Option Addr) (n c : Nat) (ss : List Sc.St) (B : Nat) (w : World) (hn : n ≤ 1048576) (h : RdS w B A n ss) :
    Calls Tryd.prog 18 #[.slice A n c] w (CopiedS n ss w) := by
  obtain ⟨i0, hi, hz0, hz1, hz2⟩ := info_parts A_infoS
  have H := Lib.hid h; clear h
  go_enter Tryd.func18, Tryd.ntmps18
  go_wp2_with (refine wpList_make_st _ rfl _ _ _ rfl i0 Tryd.underlying39 hi hz0 hz1 hz2 _ _ _ _ n rfl rfl rfl rfl (by omega) ?_)
  go_loopw [4] (fun i wr => ∃ k : Nat, k ≤ n ∧ i = .int .i64 k ∧ BlkS wr w.heap.size (cllS (fillS ss k)) ∧ Below w.heap.size w wr) (fun i _ => n - (intOf i).toNat)
  case atStart =>
    exact ⟨0, Nat.zero_le _, rfl, by rw [fillS_zero, H.out.len]; exact BlkS.new _ _, (Below.refl _ _).alloc (Nat.le_refl _) _⟩
  case round =>
    obtain ⟨k, hk, rfl, hblk, hb⟩ := hrel
    by_cases hlt : k < n
    · obtain ⟨g, o, rfl, hg, c0, c1, c2, c3⟩ := H.out.at_ hlt
      have hg2 := World.block_lt_of_cell? w _ c0
      have hl := fillS_len ss k (by rw [H.out.len]; exact hk)
      have hkl : k < (fillS ss k).length := by rw [hl, H.out.len]; exact hlt
      have HN := Lib.hid (hblk.has hkl)
      obtain ⟨x, hx⟩ : ∃ x, x = Sc.nth ss k := ⟨_, rfl⟩
      rw [← hx] at c0 c1 c2 c3
      obtain ⟨p, d, a, b⟩ := x
      have q0 := (hb.cell (p := ⟨g, o + k * 4, none⟩) hg2).trans c0
      have q1 := (hb.cell (p := ⟨g, o + k * 4 + 1, none⟩) hg2).trans c1
      have q2 := (hb.cell (p := ⟨g, o + k * 4 + 2, none⟩) hg2).trans c2
      have q3 := (hb.cell (p := ⟨g, o + k * 4 + 3, none⟩) hg2).trans c3
      have HX := Lib.hid hx
      have HBK := Lib.hid hblk
      have HB := Lib.hid hb
      clear c0 c1 c2 c3 hx hblk hb hl
      simp only at q0 q1 q2 q3
      go_wp2_with fail
      refine (toSt_any p d a b wr).mono ?_
      rintro e w1 ⟨rfl, hb1⟩
      have hbk := HBK.out.keep hb1
      obtain ⟨t0, t1, t2, t3⟩ := hbk.has hkl
      have f0 := hbk.frozen (k * 4)
      have f1 := hbk.frozen (k * 4 + 1)
      have f2 := hbk.frozen (k * 4 + 2)
      have f3 := hbk.frozen (k * 4 + 3)
      have HK2 := Lib.hid (hbk.set4 hkl ⟨p, d, a, b⟩)
      have HB2 := Lib.hid (below_set4 (i := k * 4) (HB.out.trans (hb1.mono HB.out.size)) (Nat.le_refl _) (.int .i64 p) (.int .i64 d) (.int .i64 a) (.int .i64 b))
      clear hbk hb1
      simp only at t0 t1 t2 t3
      go_wp2
      go_roundw
      case rel =>
        refine ⟨k + 1, by omega, by go_num, ?_, HB2.out⟩
        have := HK2.out
        rw [HX.out, fillS_set ss k (by rw [H.out.len]; exact hlt)] at this
        exact this
      case measure => simp [intOf]; omega
    · have hkn : k = n := by omega
      have HALL := Lib.hid (And.intro hblk (And.intro hb hkn)); clear hblk hb hkn
      go_wp2
      go_ret
      obtain ⟨hblk, hb, rfl⟩ := HALL.out
      rw [show fillS ss k = ss by rw [← H.out.len]; exact fillS_all ss] at hblk
      exact ⟨_, rfl, OwnS.of_blk hblk H.out.len (Nat.le_refl _), hb⟩
/-- A world behind w that keeps what lay in w. -/
structure BelowBy (w : World) where
  W : World
  h : Below w.heap.size w W
instance belowByInh (w : World) : Inhabited (BelowBy w) := ⟨⟨w, Below.refl _ _⟩⟩
theorem wp_region_quiet_below {P : Program} {id : Nat} {Q : Exit → Act → World → Prop} {a : Act} {w : World} {l : List Oper} (hm : P.follows .mixedOrders = true) (hB : Region.lexB .any l.toArray = true)
    (h : wpQuiet P l.toArray (fun w' => ∃ p : BelowBy w, w' = p.W) (fun a' => ∀ w', (∃ p : BelowBy w, w' = p.W) → Q .normal a' w') l a) : (Code.region id l.toArray true).wp P Q a w :=
  wp_region_quiet (C := fun w' => ∃ p : BelowBy w, w' = p.W) hm hB ⟨⟨w.drew, (Below.refl _ _).drew⟩, rfl⟩ (by simpa using h)
/-- A callee's contract, met in such a world. -/
theorem calls_below {P : Program} {f : FuncId} {args : Array Value} {w : World} {p : BelowBy w} {v : Value}
    (h : Calls P f args p.W fun e w' => e = .returned v ∧ Below p.W.heap.size p.W w') : Calls P f args p.W fun e w'' => e = .returned v ∧ ∃ q : BelowBy w, w'' = q.W :=
  h.mono fun _ w' ⟨he, hb⟩ => ⟨he, ⟨⟨w', p.h.trans (hb.mono p.h.size)⟩, rfl⟩⟩
theorem BelowBy.cell {w : World} {a : Addr} {v : Value} (h : w.cell? a = some v) (p : BelowBy w) : p.W.cell? a = some v := (p.h.cell (World.block_lt_of_cell? w _ h)).trans h
set_option maxHeartbeats 400000 in
theorem eqSS_same (A A' : Option Addr) (n c c' : Nat) (ss : List Sc.St) (B B' : Nat) (w : World) (hn : n ≤ 1048576) (h : RdS w B A n ss) (h' : RdS w B' A' n ss) :
    Calls Tryd.prog 22 #[.slice A n c, .slice A' n c'] w fun e w' => e = .returned (.bool true) ∧ Below w.heap.size w w' := by
  have H := Lib.hid h; clear h
  have H' := Lib.hid h'; clear h'
  go_enter Tryd.func22, Tryd.ntmps22
  go_wp2
  go_loopw [5] (fun i wr => ∃ k : Nat, k ≤ n ∧ i = .int .i64 k ∧ Below w.heap.size w wr) (fun i _ => n - (intOf i).toNat)
  case atStart => exact ⟨0, Nat.zero_le _, rfl, Below.refl _ _⟩
  case round =>
    obtain ⟨k, hk, rfl, hb⟩ := hrel
    by_cases hlt : k < n
    · obtain ⟨g, o, rfl, hg, c0, c1, c2, c3⟩ := (H.out.below hb).at_ hlt
      obtain ⟨g', o', rfl, hg', d0, d1, d2, d3⟩ := (H'.out.below hb).at_ hlt
      obtain ⟨x, hx⟩ : ∃ x, x = Sc.nth ss k := ⟨_, rfl⟩
      rw [← hx] at c0 c1 c2 c3 d0 d1 d2 d3
      obtain ⟨p, d, a, b⟩ := x
      have q0 := BelowBy.cell c0
      have q1 := BelowBy.cell c1
      have q2 := BelowBy.cell c2
      have q3 := BelowBy.cell c3
      have r0 := BelowBy.cell d0
      have r1 := BelowBy.cell d1
      have r2 := BelowBy.cell d2
      have r3 := BelowBy.cell d3
      simp only at q0 q1 q2 q3 r0 r1 r2 r3
      have HB := Lib.hid hb; clear hb c0 c1 c2 c3 d0 d1 d2 d3 hx
      have i1 : (0 : Int) ≤ (k : Int) := by omega
      have i2 : (k : Int) < (n : Int) := by omega
      go_wp2
      refine wp_region_quiet_below (by kernel_rfl) (by kernel_rfl) ?_
      repeat (quiet_step (first | (go_at_call 60; exact calls_below (eqSt_same _ _ _ _ _))))
      refine wpQuiet_nil ?_
      rintro _ ⟨⟨wq, hwq⟩, rfl⟩
      go_wp2
      go_roundw
      case rel => exact ⟨k + 1, by omega, by go_num, HB.out.trans (hwq.mono HB.out.size)⟩
      case measure => simp [intOf]; omega
    · have hkn : k = n := by omega
      have HB := Lib.hid hb; clear hb hkn
      go_wp2
      go_ret
      exact ⟨rfl, HB.out⟩
theorem frozenS_of {w : World} {lo hi n : Nat} {A : Option Addr} {ss : List Sc.St} (h : OwnS w lo hi A n ss) {k g o : Nat} (hk : k < n) (hA : A = some ⟨g, o, none⟩) :
    lo ≤ g ∧ g < hi ∧ (∀ i, w.frozen? ⟨g, i, none⟩ = false) ∧ At4 (fun i => w.cell? ⟨g, i, none⟩) (o + k * 4) (Sc.nth ss k) := by
  obtain ⟨g', o', cs, e, h1, h2, hg, hc⟩ := h.2 (by omega)
  subst hA
  injection e with e
  injection e with e1 e2
  subst e1; subst e2
  have hl : k < ss.length := by have := h.1; omega
  have h4 := hc k _ (nth_get hl)
  exact ⟨h1, h2, fun i => hg.frozen i, (hg.cell _).trans h4.1, (hg.cell _).trans h4.2.1, (hg.cell _).trans h4.2.2.1, (hg.cell _).trans h4.2.2.2⟩
theorem At4.lt {cs : Array Value} {o : Nat} {s : Sc.St} (h : At4 (fun i => cs[i]?) o s) : o + 3 < cs.size := (Array.getElem?_eq_some_iff.1 h.2.2.2).1
/-- Four stores: one statement of an owned row. -/
theorem OwnS.set4 {w : World} {lo hi n g o k : Nat} {ss : List Sc.St} (h : OwnS w lo hi (some ⟨g, o, none⟩) n ss) (hk : k < n) (s : Sc.St) :
    OwnS ((((w.setCell ⟨g, o + k * 4, none⟩ (.int .i64 s.op)).setCell ⟨g, o + k * 4 + 1, none⟩ (.int .i64 s.d)).setCell ⟨g, o + k * 4 + 2, none⟩ (.int .i64 s.a)).setCell ⟨g, o + k * 4 + 3, none⟩ (.int .i64 s.b)) lo hi (some ⟨g, o, none⟩) n (ss.set k s) := by
  refine ⟨by simp [h.1], fun hn => ?_⟩
  obtain ⟨g', o', cs, e, h1, h2, hg, hc⟩ := h.2 (by omega)
  injection e with e
  injection e with e1 e2
  subst e1; subst e2
  have hl : k < ss.length := by have := h.1; omega
  have h4 := (hc k _ (nth_get hl)).lt
  refine ⟨g, o, _, rfl, h1, h2, (((hg.set_ (o + k * 4) (.int .i64 s.op)).set_ (o + k * 4 + 1) (.int .i64 s.d)).set_ (o + k * 4 + 2) (.int .i64 s.a)).set_ (o + k * 4 + 3) (.int .i64 s.b), fun j t ht => ?_⟩
  rw [List.getElem?_set] at ht
  by_cases e : k = j
  · subst e
    rw [if_pos rfl, if_pos hl] at ht
    injection ht with ht; subst ht
    refine ⟨?_, ?_, ?_, ?_⟩
    all_goals
      simp only [Array.getElem?_setIfInBounds, Array.size_setIfInBounds]
    · rw [if_neg (by omega), if_neg (by omega), if_neg (by omega), if_pos trivial, if_pos (by omega)]
    · rw [if_neg (by omega), if_neg (by omega), if_pos trivial, if_pos (by omega)]
    · rw [if_neg (by omega), if_pos trivial, if_pos (by omega)]
    · rw [if_pos trivial, if_pos (by omega)]
  · rw [if_neg e] at ht
    have h5 := hc j t ht
    refine ⟨?_, ?_, ?_, ?_⟩
    all_goals
      simp only [Array.getElem?_setIfInBounds, Array.size_setIfInBounds]
      rw [if_neg (by omega), if_neg (by omega), if_neg (by omega), if_neg (by omega)]
    · exact h5.1
    · exact h5.2.1
    · exact h5.2.2.1
    · exact h5.2.2.2
theorem ch_set4 {lo hi : Nat} {a w : World} (h : Ch lo hi a w) {g i : Nat} (h1 : lo ≤ g) (h2 : g < hi) (v0 v1 v2 v3 : Value) : Ch lo hi a ((((w.setCell ⟨g, i, none⟩ v0).setCell ⟨g, i + 1, none⟩ v1).setCell ⟨g, i + 2, none⟩ v2).setCell ⟨g, i + 3, none⟩ v3) :=
  (((h.set_ (p := ⟨g, i, none⟩) h1 h2 _).set_ (p := ⟨g, i + 1, none⟩) h1 h2 _).set_ (p := ⟨g, i + 2, none⟩) h1 h2 _).set_ (p := ⟨g, i + 3, none⟩) h1 h2 _
/-- The marks from k0 on, four a statement. -/
def markOf (k0 : Int) (i : Nat) : Sc.St := ⟨k0 + i * 4, k0 + i * 4 + 1, k0 + i * 4 + 1 + 1, k0 + i * 4 + 1 + 1 + 1⟩
def marksS (k0 : Int) (n : Nat) : List Sc.St := (List.range n).map (markOf k0)
theorem marksS_len (k0 : Int) (n : Nat) : (marksS k0 n).length = n := by simp [marksS]
theorem marksS_nth (k0 : Int) {n k : Nat} (h : k < n) : Sc.nth (marksS k0 n) k = markOf k0 k := by
  rw [Sc.nth, List.getD_eq_getElem?_getD, marksS, List.getElem?_map, List.getElem?_range h]; rfl
theorem marksS_set (k0 : Int) (ss : List Sc.St) (k : Nat) (h : k < ss.length) : (marksS k0 k ++ ss.drop k).set k (markOf k0 k) = marksS k0 (k + 1) ++ ss.drop (k + 1) := by
  rw [List.set_append_right _ _ (by rw [marksS_len]; exact Nat.le_refl _), marksS_len, Nat.sub_self, List.drop_eq_getElem_cons h, List.set_cons_zero]
  rw [show marksS k0 (k + 1) = marksS k0 k ++ [markOf k0 k] by simp [marksS, List.range_succ], List.append_assoc]
  rfl
def MarkedS (k0 : Int) (A : Option Addr) (n lo hi : Nat) (w : World) (e : Ending) (w' : World) : Prop :=
  e = .returned (.int .i64 (k0 + (n : Int) * 4)) ∧ OwnS w' lo hi A n (marksS k0 n) ∧ Ch lo hi w w'
set_option maxHeartbeats 1000000 in
theorem markSS_any (A : Option Addr) (n c : Nat) (ss : List Sc.St) (lo hi : Nat) (k0 : Int) (w : World) (hn : n ≤ 1048576) (hk0 : 0 ≤ k0) (hk1 : k0 ≤ 100000000) (h : OwnS w lo hi A n ss) :
    Calls Tryd.prog 23 #[.slice A n c, .int .i64 k0] w (MarkedS k0 A n lo hi w) := by
  have H := Lib.hid h; clear h
  go_enter Tryd.func23, Tryd.ntmps23
  go_wp2
  go_loopw [1, 5] (fun kv i wr => ∃ k : Nat, k ≤ n ∧ i = .int .i64 k ∧ kv = .int .i64 (k0 + (k : Int) * 4) ∧ OwnS wr lo hi A n (marksS k0 k ++ ss.drop k) ∧ Ch lo hi w wr) (fun _ i _ => n - (intOf i).toNat)
  case atStart => exact ⟨0, Nat.zero_le _, rfl, by simp, by simpa [marksS] using H.out, Ch.refl _ _ _⟩
  case round =>
    obtain ⟨k, hk, rfl, rfl, hown, hch⟩ := hrel
    by_cases hlt : k < n
    · obtain ⟨g, o, rfl, hg, _⟩ := H.out.rd.at_ hlt
      obtain ⟨h1, h2, hf, t0, t1, t2, t3⟩ := frozenS_of hown hlt rfl
      have f0 := hf (o + k * 4)
      have f1 := hf (o + k * 4 + 1)
      have f2 := hf (o + k * 4 + 2)
      have f3 := hf (o + k * 4 + 3)
      obtain ⟨m, hm⟩ : ∃ m : Int, m = k0 + (k : Int) * 4 := ⟨_, rfl⟩
      have HN := Lib.hid (hown.set4 hlt ⟨m, m + 1, m + 1 + 1, m + 1 + 1 + 1⟩)
      have HC := Lib.hid (ch_set4 (i := o + k * 4) hch h1 h2 (.int .i64 m) (.int .i64 (m + 1)) (.int .i64 (m + 1 + 1)) (.int .i64 (m + 1 + 1 + 1)))
      clear hown hch hf
      have m0 : 0 ≤ m := by omega
      have m1 : m ≤ 110000000 := by omega
      rw [← hm]
      have HM := Lib.hid hm; clear hm
      simp only at t0 t1 t2 t3
      generalize (Sc.nth (marksS k0 k ++ ss.drop k) k) = old at t0 t1 t2 t3
      go_wp2
      go_roundw
      case rel =>
        refine ⟨k + 1, by omega, by go_num, by have := HM.out; go_num, ?_, HC.out⟩
        have := HN.out
        rw [show (⟨m, m + 1, m + 1 + 1, m + 1 + 1 + 1⟩ : Sc.St) = markOf k0 k by rw [HM.out]; rfl, marksS_set k0 ss k (by rw [H.out.len]; exact hlt)] at this
        simp only [markOf] at this
        rw [← HM.out] at this
        exact this
      case measure => simp [intOf]; omega
    · have hkn : k = n := by omega
      have HALL := Lib.hid (And.intro hown (And.intro hch hkn)); clear hown hch
      subst hkn
      go_wp2
      go_ret
      obtain ⟨hown, hch, _⟩ := HALL.out
      have e : ss.drop k = [] := List.drop_eq_nil_of_le (by rw [H.out.len]; exact Nat.le_refl _)
      rw [e, List.append_nil] at hown
      exact ⟨rfl, hown, hch⟩
end Go.Proofs.YtnbcobhcemjbnaaDoor.Wds
