/-
  The laws' helpers over lists of ranges: a copy, the test of equality, the size; one contract each.
-/
import Derived.Test.YtfmplneopmbfoaaDoorLstG
import Derived.Test.YtfmplneopmbfoaaDoorLstW
import Derived.Test.YtfmplneopmbfoaaDoorBelBy
import Derived.Handy
namespace Go.Proofs.YtfmplneopmbfoaaDoor.Wds
open Go.RowKit
set_option linter.unusedVariables false

theorem toRg_any (f t : Int) (w : World) :
    Calls Tryd.prog 46 #[.agg #[.int .i64 f, .int .i64 t]] w fun e w' => e = .returned (.agg #[.int .i64 f, .int .i64 t]) ∧ Below w.heap.size w w' := by
  go_enter Tryd.func46, Tryd.ntmps46
  go_wp2
  go_returns
  refine ⟨rfl, ?_⟩
  go_grown
theorem eqRg_same (f t : Int) (w : World) :
    Calls Tryd.prog 47 #[.agg #[.int .i64 f, .int .i64 t], .agg #[.int .i64 f, .int .i64 t]] w fun e w' => e = .returned (.bool true) ∧ Below w.heap.size w w' := by
  go_enter Tryd.func47, Tryd.ntmps47
  go_wp2
  go_returns
  refine ⟨rfl, ?_⟩
  go_grown
theorem szG_in (A : Option Addr) (n c : Nat) (w : World) (left : Int) (hn : (n : Int) ≤ left) (h1 : left ≤ 1048576) :
    Calls Tryd.prog 15 #[.slice A n c, .int .i64 left] w fun e w' => e = .returned (.int .i64 (left - n)) ∧ w = w' := by
  have e1 : ¬ (left - (n : Int) < 0) := by omega
  go_enter Tryd.func15, Tryd.ntmps15
  go_wp2
  go_returns
  exact ⟨rfl, rfl⟩
theorem szG_out (A : Option Addr) (n c : Nat) (w : World) (left : Int) (hn : left < (n : Int)) (h0 : 0 ≤ left) (hb : n ≤ 9223372036854775807) :
    Calls Tryd.prog 15 #[.slice A n c, .int .i64 left] w fun e w' => e = .returned (.int .i64 (-1)) ∧ w = w' := by
  have e1 : (left - (n : Int) < 0) := by omega
  go_enter Tryd.func15, Tryd.ntmps15
  go_wp2
  go_returns
  exact ⟨rfl, rfl⟩
/-- make([]impl.Range, n): one new block of n ranges of zeros. -/
theorem wpList_make_rg {P : Program} (w : World) {ops : Array Oper} {rest : List Oper} {o : Oper} {a : Act} {Q : Exit → Act → World → Prop}
    (hg : o.guard = none) (l c : Operand) (t : TypeId) (hop : o.op = Op.makeSlice t l c)
    (i : TypeInfo) (h1 : P.underlying t = some (.slice 34)) (h2 : P.info? 34 = some i) (h3 : i.zero = some (.agg #[.int .i64 0, .int .i64 0])) (h4 : i.size = 2) (h5 : i.bytes = 16)
    (kl kc : IntKind) (L C : Int) (n : Nat) (hl : a.eval l = .int kl L) (hc : a.eval c = .int kc C) (hL : L = (n : Int)) (hC : C = (n : Int)) (b2 : n ≤ 1099511627776)
    (hK : wpList P ops Q rest (a.put o.dst (.slice (some ⟨w.heap.size, 0, none⟩) n n)) (w.alloc (.cells (cllG (List.replicate n Rg.zero)) 34))) :
    wpList P ops Q (o :: rest) a w := by
  refine wpList_plain hg fun K hK' => ?_
  subst hL
  subst hC
  have hrun := run_make (P := P) w t 34 i (.agg #[.int .i64 0, .int .i64 0]) h1 h2 h3 kl kc (n : Int) (n : Int) (by omega) (by omega) (by rw [h5]; omega) (by omega)
  have e : madeCells (Value.agg #[.int .i64 0, .int .i64 0]).cells ((n : Int).toNat * i.size) = cllG (List.replicate n Rg.zero) := by
    rw [h4]
    refine Array.ext_getElem? fun j => ?_
    by_cases hj : j < n * 2
    · obtain ⟨k, r, hr, rfl⟩ : ∃ k r, r < 2 ∧ j = k * 2 + r := ⟨j / 2, j % 2, by omega, by omega⟩
      have hk : k < n := by omega
      rw [show (cllG (List.replicate n Rg.zero))[k * 2 + r]? = ((List.replicate n Rg.zero)[k]?).bind fun s => (c2 s)[r]? by rw [cllG, List.getElem?_toArray, flat_getG _ k r hr]]
      rw [List.getElem?_replicate, if_pos hk]
      have : r = 0 ∨ r = 1 := by omega
      have hr : (Array.range ((n : Int).toNat * 2))[k * 2 + r]? = some (k * 2 + r) := by rw [Array.getElem?_eq_getElem (by simp; omega)]; simp
      rcases this with rfl | rfl
      · simp only [madeCells, Array.getElem?_map, hr]; rw [Option.map_some]; simp [Value.cells, c2, Rg.zero]
      · simp only [madeCells, Array.getElem?_map, hr]; rw [Option.map_some]; simp [Value.cells, c2, Rg.zero, show (k * 2 + 1) % 2 = 1 by omega]
    · rw [Array.getElem?_eq_none (by simp [madeCells]; omega), Array.getElem?_eq_none (by rw [cllG_size]; simp; omega)]
  rw [e] at hrun
  unfold Oper.wp
  simp [execOp, hop, hl, hc, hrun, Result.andThen]
  exact hK' _ _ hK
theorem A_infoG : (Tryd.prog.info? 34).map (fun i => (i.zero, i.size, i.bytes)) = some (some (.agg #[.int .i64 0, .int .i64 0]), 2, 16) := by kernel_rfl
/-- The list after k of its n places have been filled. -/
def fillG (ss : List Rg.R) (k : Nat) : List Rg.R := ss.take k ++ List.replicate (ss.length - k) Rg.zero
theorem fillG_len (ss : List Rg.R) (k : Nat) (h : k ≤ ss.length) : (fillG ss k).length = ss.length := by simp [fillG]; omega
theorem fillG_zero (ss : List Rg.R) : fillG ss 0 = List.replicate ss.length Rg.zero := by simp [fillG]
theorem fillG_all (ss : List Rg.R) : fillG ss ss.length = ss := by simp [fillG]
theorem nthG_get {ss : List Rg.R} {k : Nat} (h : k < ss.length) : ss[k]? = some (Rg.nth ss k) := by
  rw [Rg.nth, List.getD_eq_getElem?_getD, List.getElem?_eq_getElem h]; rfl
theorem fillG_set (ss : List Rg.R) (k : Nat) (h : k < ss.length) : (fillG ss k).set k (Rg.nth ss k) = fillG ss (k + 1) := by
  unfold fillG
  have hl : (ss.take k).length = k := by simp; omega
  have hn : Rg.nth ss k = ss[k] := by rw [Rg.nth, List.getD_eq_getElem?_getD, List.getElem?_eq_getElem h]; rfl
  rw [List.set_append_right _ _ (by omega), hl, Nat.sub_self, show ss.length - k = (ss.length - (k + 1)) + 1 by omega, List.replicate_succ, List.set_cons_zero, hn, List.take_succ_eq_append_getElem h, List.append_assoc]
  rfl
/-- A copy of ranges is returned: a new row of its own. -/
def CopiedG (n : Nat) (ss : List Rg.R) (w : World) (e : Ending) (w' : World) : Prop :=
  ∃ g, e = .returned (.slice (some ⟨g, 0, none⟩) n n) ∧ OwnG w' w.heap.size w'.heap.size (some ⟨g, 0, none⟩) n ss ∧ Below w.heap.size w w'
theorem below_set2 {B : Nat} {a w : World} (h : Below B a w) {g i : Nat} (hg : B ≤ g) (v0 v1 : Value) : Below B a ((w.setCell ⟨g, i, none⟩ v0).setCell ⟨g, i + 1, none⟩ v1) :=
  (h.setCell (p := ⟨g, i, none⟩) hg _).setCell (p := ⟨g, i + 1, none⟩) hg _
set_option maxHeartbeats 400000 in
theorem toGS_any (A : Option Addr) (n c : Nat) (ss : List Rg.R) (B : Nat) (w : World) (hn : n ≤ 1048576) (h : RdG w B A n ss) :
    Calls Tryd.prog 17 #[.slice A n c] w (CopiedG n ss w) := by
  obtain ⟨i0, hi, hz0, hz1, hz2⟩ := info_parts A_infoG
  have H := Lib.hid h; clear h
  go_enter Tryd.func17, Tryd.ntmps17
  go_wp2_with (refine wpList_make_rg _ rfl _ _ _ rfl i0 Tryd.underlying24 hi hz0 hz1 hz2 _ _ _ _ n rfl rfl rfl rfl (by omega) ?_)
  go_loopw [4] (fun i wr => ∃ k : Nat, k ≤ n ∧ i = .int .i64 k ∧ BlkG wr w.heap.size (cllG (fillG ss k)) ∧ Below w.heap.size w wr) (fun i _ => n - (intOf i).toNat)
  case atStart =>
    exact ⟨0, Nat.zero_le _, rfl, by rw [fillG_zero, H.out.len]; exact BlkG.new _ _, (Below.refl _ _).alloc (Nat.le_refl _) _⟩
  case round =>
    obtain ⟨k, hk, rfl, hblk, hb⟩ := hrel
    by_cases hlt : k < n
    · obtain ⟨g, o, rfl, hg, c0, c1⟩ := H.out.at_ hlt
      have hg2 := World.block_lt_of_cell? w _ c0
      have hl := fillG_len ss k (by rw [H.out.len]; exact hk)
      have hkl : k < (fillG ss k).length := by rw [hl, H.out.len]; exact hlt
      have HN := Lib.hid (hblk.has hkl)
      obtain ⟨x, hx⟩ : ∃ x, x = Rg.nth ss k := ⟨_, rfl⟩
      rw [← hx] at c0 c1
      obtain ⟨f, t⟩ := x
      have q0 := (hb.cell (p := ⟨g, o + k * 2, none⟩) hg2).trans c0
      have q1 := (hb.cell (p := ⟨g, o + k * 2 + 1, none⟩) hg2).trans c1
      have HX := Lib.hid hx
      have HBK := Lib.hid hblk
      have HB := Lib.hid hb
      clear c0 c1 hx hblk hb hl
      simp only at q0 q1
      go_wp2_with fail
      refine (toRg_any f t wr).mono ?_
      rintro e w1 ⟨rfl, hb1⟩
      have hbk := HBK.out.keep hb1
      obtain ⟨t0, t1⟩ := hbk.has hkl
      have f0 := hbk.frozen (k * 2)
      have f1 := hbk.frozen (k * 2 + 1)
      have HK2 := Lib.hid (hbk.set2 hkl ⟨f, t⟩)
      have HB2 := Lib.hid (below_set2 (i := k * 2) (HB.out.trans (hb1.mono HB.out.size)) (Nat.le_refl _) (.int .i64 f) (.int .i64 t))
      clear hbk hb1
      simp only at t0 t1
      go_wp2
      go_roundw
      case rel =>
        refine ⟨k + 1, by omega, by go_num, ?_, HB2.out⟩
        have := HK2.out
        rw [HX.out, fillG_set ss k (by rw [H.out.len]; exact hlt)] at this
        exact this
      case measure => simp [intOf]; omega
    · have hkn : k = n := by omega
      have HALL := Lib.hid (And.intro hblk (And.intro hb hkn)); clear hblk hb hkn
      go_wp2
      go_ret
      obtain ⟨hblk, hb, rfl⟩ := HALL.out
      rw [show fillG ss k = ss by rw [← H.out.len]; exact fillG_all ss] at hblk
      exact ⟨_, rfl, OwnG.of_blk hblk H.out.len (Nat.le_refl _), hb⟩
set_option maxHeartbeats 400000 in
theorem eqGS_same (A A' : Option Addr) (n c c' : Nat) (ss : List Rg.R) (B B' : Nat) (w : World) (hn : n ≤ 1048576) (h : RdG w B A n ss) (h' : RdG w B' A' n ss) :
    Calls Tryd.prog 19 #[.slice A n c, .slice A' n c'] w fun e w' => e = .returned (.bool true) ∧ Below w.heap.size w w' := by
  have H := Lib.hid h; clear h
  have H' := Lib.hid h'; clear h'
  go_enter Tryd.func19, Tryd.ntmps19
  go_wp2
  go_loopw [5] (fun i wr => ∃ k : Nat, k ≤ n ∧ i = .int .i64 k ∧ Below w.heap.size w wr) (fun i _ => n - (intOf i).toNat)
  case atStart => exact ⟨0, Nat.zero_le _, rfl, Below.refl _ _⟩
  case round =>
    obtain ⟨k, hk, rfl, hb⟩ := hrel
    by_cases hlt : k < n
    · obtain ⟨g, o, rfl, hg, c0, c1⟩ := (H.out.below hb).at_ hlt
      obtain ⟨g', o', rfl, hg', d0, d1⟩ := (H'.out.below hb).at_ hlt
      obtain ⟨x, hx⟩ : ∃ x, x = Rg.nth ss k := ⟨_, rfl⟩
      rw [← hx] at c0 c1 d0 d1
      obtain ⟨f, t⟩ := x
      have q0 := BelBy.cell c0
      have q1 := BelBy.cell c1
      have r0 := BelBy.cell d0
      have r1 := BelBy.cell d1
      simp only at q0 q1 r0 r1
      have HB := Lib.hid hb; clear hb c0 c1 d0 d1 hx
      have i1 : (0 : Int) ≤ (k : Int) := by omega
      have i2 : (k : Int) < (n : Int) := by omega
      go_wp2
      refine wp_region_quiet_bel (by kernel_rfl) (by kernel_rfl) ?_
      repeat (quiet_step (first | (go_at_call 47; exact calls_bel (eqRg_same _ _ _))))
      refine wpQuiet_nil ?_
      rintro _ ⟨⟨wq, hwq⟩, rfl⟩
      go_wp2
      go_roundw
      case rel => exact ⟨k + 1, by omega, by go_num, HB.out.trans (hwq.mono HB.out.size)⟩
      case measure => simp [intOf]; omega
    · have hkn : k = n := by omega
      have HB := Lib.hid hb; clear hb hkn
      go_wp2
      go_ret
      exact ⟨rfl, HB.out⟩
end Go.Proofs.YtfmplneopmbfoaaDoor.Wds
