/-
  The members of a set, ascending: the code's function, with the library's counts of ones and of trailing zeros under it.
-/
import Derived.Test.YtfmplneopmbfoaaDoorU32
import Derived.Test.YtfmplneopmbfoaaDoorCnt32
import Derived.Test.YtfmplneopmbfoaaDoorPush
namespace Go.Proofs.YtfmplneopmbfoaaDoor.Wds
open Go.RowKit
set_option linter.unusedVariables false

/-- The library's table: where a power of 2 times its number falls. -/
def dbTab : List Nat := [0, 1, 28, 2, 29, 14, 24, 3, 30, 22, 20, 15, 25, 17, 4, 8, 31, 27, 13, 23, 21, 19, 16, 7, 26, 12, 18, 6, 11, 5, 10, 9]
def dbAt (t : Nat) : Nat := 2 ^ t * 125613361 % 4294967296 / 134217728
theorem db_ok : ∀ t, t < 32 → dbAt t < 32 ∧ dbTab.getD (dbAt t) 0 = t := by decide
/-- The table lies as its text says. -/
def TabT (w : World) : Prop := ∀ i, i < 32 → w.cell? ⟨0, i, none⟩ = some (.int .u8 ((dbTab.getD i 0 : Nat) : Int))
theorem TabT.lt {w : World} (h : TabT w) : 0 < w.heap.size := World.block_lt_of_cell? w _ (h 0 (by decide))
theorem TabT.below {w w' : World} (h : TabT w) {B : Nat} (hb : Below B w w') (hB : 0 < B) : TabT w' := fun i hi => (hb.cell (p := ⟨0, i, none⟩) hB).trans (h i hi)
theorem TabT.keep {w w' : World} (h : TabT w) (hb : Below w.heap.size w w') : TabT w' := h.below hb h.lt
theorem tz_any (s t : Nat) (w : World) (hs : s < 4294967296) (h0 : s ≠ 0) (ht : t < 32) (hlow : s &&& (4294967296 - s) = 2 ^ t) (hT : TabT w) :
    Calls Tryd.prog 55 #[.int .u32 (s : Int)] w fun e w' => e = .returned (.int .i64 (t : Int)) ∧ w = w' := by
  have e0 : ((s : Int) == 0) = false := by simp; omega
  have e1 : ¬ ((s : Int) = 0) := by omega
  have hn : (-(s : Int)) % 4294967296 = ((4294967296 - s : Nat) : Int) := by omega
  obtain ⟨P, hP⟩ : ∃ P, P = 2 ^ t := ⟨_, rfl⟩
  have hA : bits .and .u32 (s : Int) ((-(s : Int)) % 4294967296) = (P : Int) := by
    rw [hn, u32_and s _ hs (by omega), hlow, hP]
  obtain ⟨i, hi⟩ : ∃ i, i = dbAt t := ⟨_, rfl⟩
  have hB : (P : Int) * 125613361 % 4294967296 / 134217728 = (i : Int) := by
    rw [hi, dbAt, ← hP]; simp
  have hd := db_ok t ht
  rw [← hi] at hd
  have hc := hT i hd.1
  rw [hd.2] at hc
  have hi32 : i < 32 := hd.1
  have i1 : (i : Int) < 32 := by omega
  clear hd hT hi hP hlow hn
  go_enter Tryd.func55, Tryd.ntmps55
  go_wp2
  go_ret
  exact ⟨ret_int (by omega), rfl⟩
theorem wpList_make_cap {P : Program} (w : World) {ops : Array Oper} {rest : List Oper} {o : Oper} {a : Act} {Q : Exit → Act → World → Prop}
    (hg : o.guard = none) (l c : Operand) (t : TypeId) (hop : o.op = Op.makeSlice t l c)
    (i : TypeInfo) (h1 : P.underlying t = some (.slice 2)) (h2 : P.info? 2 = some i) (h3 : i.zero = some (.int .i64 0)) (h4 : i.size = 1) (h5 : i.bytes = 8)
    (kl kc : IntKind) (L C : Int) (n : Nat) (hl : a.eval l = .int kl L) (hc : a.eval c = .int kc C) (hL : L = 0) (hC : C = (n : Int)) (b2 : n ≤ 17592186044416)
    (hK : wpList P ops Q rest (a.put o.dst (.slice (some ⟨w.heap.size, 0, none⟩) 0 n)) (w.alloc (.cells (Array.replicate n (Value.int .i64 0)) 2))) :
    wpList P ops Q (o :: rest) a w := by
  refine wpList_plain hg fun K hK' => ?_
  subst hL
  subst hC
  have hrun := run_make (P := P) w t 2 i (.int .i64 0) h1 h2 h3 kl kc 0 (n : Int) (by omega) (by omega) (by rw [h5]; omega) (by omega)
  have e : madeCells (Value.int .i64 0).cells ((n : Int).toNat * i.size) = Array.replicate n (Value.int .i64 0) := by
    rw [h4]
    apply Array.ext
    · simp [madeCells]
    · intro j hj1 hj2
      simp [madeCells, Value.cells, Nat.mod_one]
  rw [e] at hrun
  unfold Oper.wp
  simp [execOp, hop, hl, hc, hrun, Result.andThen]
  exact hK' _ _ hK
/-- The members of a set are returned. -/
theorem members_any (s : Nat) (w : World) (hs : s < 4294967296) (hT : TabT w) : Calls Tryd.prog 30 #[.int .u32 (s : Int)] w (RetL (Sc.memsI s) w) := by
  obtain ⟨i0, hi, hz0, hz1, hz2⟩ := info_parts A_info64
  have C1 := Lib.hid (count_any s w hs)
  have hc32 := pop_lt s
  generalize Rg.pop s = c at C1 hc32
  have HT := Lib.hid hT; clear hT
  go_enter Tryd.func30, Tryd.ntmps30
  go_wp2_with fail
  refine C1.out.mono ?_
  rintro e w1 ⟨rfl, hb⟩
  have HB := Lib.hid hb; clear hb
  go_wp2_with (refine wpList_make_cap _ rfl _ _ _ rfl i0 Tryd.underlying29 hi hz0 hz1 hz2 _ _ _ _ c rfl rfl rfl rfl (by omega) ?_)
  go_loopw [0, 3] (fun sv v wr => ∃ (r : Nat) (pre : List Int), r < 4294967296 ∧ sv = .int .u32 (r : Int) ∧ Hid (pre ++ Sc.memsI r = Sc.memsI s) ∧ wr.ownsRow w1.heap.size 2 1 v pre.length (pre.map (Value.int .i64)) ∧ Below w1.heap.size w1 wr) (fun sv _ _ => (intOf sv).toNat)
  case atStart => exact ⟨s, [], hs, rfl, Lib.hid rfl, World.ownsRow_made w1 _ c (Nat.le_refl _) (by unfold maxLen; omega) (by simp), (Below.refl _ _).alloc (Nat.le_refl _) _⟩
  case round =>
    obtain ⟨r, pre, hr, rfl, HP, hown, hb⟩ := hrel
    by_cases h0 : r = 0
    · subst h0
      have hz : pre = Sc.memsI s := by have := HP.out; rw [Sc.memsI, Sc.mems_zero] at this; simpa using this
      have HO := Lib.hid hown
      have HB2 := Lib.hid hb
      have HZ := Lib.hid hz
      clear hown hb hz
      go_wp2
      go_ret
      obtain ⟨A, cc, rfl, hc, ho⟩ := own_form HO.out
      have hl : pre.length ≤ 32 := by rw [HZ.out, Sc.memsI, List.length_map]; exact Sc.mems_len s
      rw [← HZ.out]
      exact ⟨A, pre.length, cc, rfl, ho.more HB.out.size (Nat.le_refl _), by omega, hc, HB.out.trans (HB2.out.mono HB.out.size)⟩
    · obtain ⟨t, ht, hlow, hm, hlt⟩ := Sc.mems_step h0 hr
      have hpl : pre.length ≤ 32 := by
        have h1 := congrArg List.length HP.out
        rw [List.length_append, Sc.memsI, Sc.memsI, List.length_map, List.length_map] at h1
        have := Sc.mems_len s
        omega
      have hP2 : (pre ++ [(t : Int)]) ++ Sc.memsI (r &&& (r - 1)) = Sc.memsI s := by
        have hmr : Sc.memsI r = (t : Int) :: Sc.memsI (r &&& (r - 1)) := by
          simp only [Sc.memsI, hm, List.map_cons, Int.ofNat_eq_natCast]
        rw [← HP.out, hmr, List.append_assoc, List.singleton_append]
      have HP2 := Lib.hid hP2
      obtain ⟨r', hr'⟩ : ∃ z, z = r &&& (r - 1) := ⟨_, rfl⟩
      have hsub : ((r : Int) - 1) % 4294967296 = ((r - 1 : Nat) : Int) := by omega
      have hsub2 : IntKind.u32.wrap ((r : Int) - 1) = ((r - 1 : Nat) : Int) := by rw [IntKind.wrap_u32]; exact hsub
      have hand : bits .and .u32 (r : Int) ((r - 1 : Nat) : Int) = (r' : Int) := by rw [hr']; exact u32_and r (r - 1) hr (by omega)
      rw [← hr'] at HP2 hlt
      have hr2 : r' < 4294967296 := by omega
      obtain ⟨q, hq⟩ : ∃ q, q = r - 1 := ⟨_, rfl⟩
      rw [← hq] at hsub hsub2 hand
      have CT := Lib.hid (tz_any r t wr hr h0 ht hlow (HT.out.below (HB.out.trans (hb.mono HB.out.size)) HT.out.lt))
      have e0 : ((r : Int) == 0) = false := by simp; omega
      have e1 : ¬ ((r : Int) = 0) := by omega
      have e2 : ((r : Int) != 0) = true := by simp; omega
      have HB2 := Lib.hid hb
      have hsz := hb.size
      obtain ⟨A, cc, rfl, _, _⟩ := own_form hown
      clear hm hlow hq hr' hP2 hb
      go_wp2_with fail
      refine CT.out.mono ?_
      rintro e w2 ⟨rfl, rfl⟩
      go_wp2_with (at_builtin; refine wpList_push _ rfl _ _ rfl i0 Tryd.underlying29 hi hz0 hz1 hz2 _ _ _ _ _ rfl hown rfl (by omega) hsz ?_; intro v' w3 hown1 hb1; have HO1 := Lib.hid hown1; have HB3 := Lib.hid (HB2.out.trans hb1); clear hown1 hb1)
      go_roundw
      case rel => exact ⟨r', pre ++ [(t : Int)], hr2, rfl, HP2, by have := HO1.out; rw [List.length_append]; exact this, HB3.out⟩
      case measure => simp [intOf]; omega
end Go.Proofs.YtfmplneopmbfoaaDoor.Wds
