/-
  ReorderCode: the code's and the model's, one contract each; appending one statement to a row of the call's own.
-/
import Derived.Test.YtbaiaahdjkjjoaaOrder
import Derived.Test.YtbaiaahdjkjjoaaPush
namespace Go.Proofs.Ytbaiaahdjkjjoaa.Wds
open Go.RowKit
set_option linter.unusedVariables false

theorem c4_one (s : Sc.St) : ∀ u ∈ c4 s, u.oneCell' = true := by
  intro u hu
  simp [c4] at hu
  rcases hu with rfl | rfl | rfl | rfl <;> rfl
theorem flat_len (ss : List Sc.St) : (ss.flatMap c4).length = ss.length * 4 := by
  have := cllS_size ss
  unfold cllS at this
  simpa using this
theorem wpList_pushS {P : Program} {ops : Array Oper} {rest : List Oper} {o : Oper} {a : Act} {Q : Exit → Act → World → Prop} (w : World) (hgd : o.guard = none) (s x : Operand)
    (ho : o.op = .call { callee := .builtin .append, args := #[s, x], argTypes := #[24, 24] })
    (i : TypeInfo) (ht : P.underlying 24 = some (.slice 57)) (hi : P.info? 57 = some i) (hz : i.zero = some (.agg #[.int .i64 0, .int .i64 0, .int .i64 0, .int .i64 0])) (hsize : i.size = 4) (hby : i.bytes = 32)
    (base : Nat) (v : Value) (n : Nat) (xs : List Sc.St) (z : Sc.St) (hs : a.eval s = v) (hown : w.ownsRow base 57 4 v n (xs.flatMap c4))
    (hx : a.eval x = .slice (some ⟨w.heap.size, 0, none⟩) 1 1) (hn : n ≤ 1099511627776) (hbase : base ≤ w.heap.size)
    (h : ∀ v' w', w'.ownsRow base 57 4 v' (n + 1) ((xs ++ [z]).flatMap c4) → Below base w w' → wpList P ops Q rest (a.put o.dst v') w') :
    wpList P ops Q (o :: rest) a (w.alloc (.cells #[.int .i64 z.op, .int .i64 z.d, .int .i64 z.a, .int .i64 z.b] 57)) := by
  refine wpList_append_own _ hgd s x 24 ho base 57 i _ 4 32 ht hi hz hsize hby rfl (by decide) v n _ hs (hown.alloc _) ⟨w.heap.size, 0, none⟩ 1 1 (c4 z) hx rfl ?_ (c4_one z) ?_ ?_ ?_ ?_
  · intro j u hj
    have hb := BlkS.new w #[.int .i64 z.op, .int .i64 z.d, .int .i64 z.a, .int .i64 z.b]
    have hc := hb.cell j
    have he : (⟨w.heap.size, 0, none⟩ : Addr).add j = ⟨w.heap.size, j, none⟩ := by
      unfold Addr.add
      by_cases h : j = 0
      · subst h; rfl
      · simp [h]
    rw [he, hc, ← hj]
    simp [c4]
  · unfold maxLen; omega
  · omega
  · simp; omega
  · intro v' w' hown' hg _
    refine h v' w' (by simpa using hown') ?_
    have hb1 : Below base w (w.alloc (.cells #[.int .i64 z.op, .int .i64 z.d, .int .i64 z.a, .int .i64 z.b] 57)) := (Below.refl base w).alloc hbase _
    refine hb1.grown hg (by simp; omega) fun r hr => ?_
    rcases hown.2 with ⟨rfl, _⟩ | ⟨g, cp, cur, rfl, hg', _⟩
    · cases hr
    · simp only [Value.ownBlock, Option.some.injEq] at hr; omega
theorem OwnS.of_row {w : World} {base n c : Nat} {A : Option Addr} {ss : List Sc.St} (h : w.ownsRow base 57 4 (.slice A n c) n (ss.flatMap c4)) : OwnS w base w.heap.size A n ss := by
  have hl : ss.length = n := by have := h.1; rw [flat_len] at this; omega
  refine ⟨hl, fun hn => ?_⟩
  rcases h.2 with ⟨e, rfl⟩ | ⟨g, cap, cur, hv, hg, hh, _, _, _, ht⟩
  · omega
  · injection hv with e1 e2 e3
    refine ⟨g, 0, cur, e1, hg, lt_of_block hh, hh, fun j s hs => ?_⟩
    have hj : j < ss.length := (List.getElem?_eq_some_iff.1 hs).1
    have key : ∀ r, r < 4 → cur[j * 4 + r]? = (c4 s)[r]? := by
      intro r hr
      have h1 := flat_get ss j r hr
      rw [hs, ← ht, List.getElem?_take, if_pos (by omega)] at h1
      simpa using h1
    rw [Nat.zero_add]
    exact ⟨key 0 (by omega), key 1 (by omega), key 2 (by omega), key 3 (by omega)⟩
theorem ownS_form {w : World} {B : Nat} {v : Value} {n : Nat} {ss : List Sc.St} (h : w.ownsRow B 57 4 v n (ss.flatMap c4)) : ∃ A c, v = .slice A n c ∧ OwnS w B w.heap.size A n ss := by
  have h0 := h
  rcases h.2 with ⟨rfl, rfl⟩ | ⟨g, cap, cur, rfl, _, _, hc, _⟩
  · exact ⟨none, 0, rfl, OwnS.of_row h0⟩
  · exact ⟨_, _, rfl, OwnS.of_row h0⟩
theorem Ret1S.of_row {w w' : World} {v : Value} {n : Nat} {ss : List Sc.St} (h : w'.ownsRow w.heap.size 57 4 v n (ss.flatMap c4)) (hn : n ≤ 1048576) (hb : Below w.heap.size w w') : Ret1S ss true w (.returned (.tuple #[v, .bool true])) w' := by
  obtain ⟨A, c, rfl, ho⟩ := ownS_form h
  exact ⟨A, n, c, rfl, ho, hn, hb⟩
theorem Ret1S.no {w w' : World} (hb : Below w.heap.size w w') : Ret1S [] false w (.returned (.tuple #[.slice none 0 0, .bool false])) w' :=
  ⟨none, 0, 0, rfl, OwnS.nil _ _ _ _, Nat.zero_le _, hb⟩
/-- The statements in another order. -/
def moved (c : List Sc.St) (o : List Int) : List Sc.St := o.map fun j => Sc.nth c j.toNat
def reorder2 (c : List Sc.St) (o : List Int) : List Sc.St × Bool := if Sc.isOrder c o then (moved c o, true) else ([], false)
theorem isOrder_at {c : List Sc.St} {o : List Int} (h : Sc.isOrder c o = true) {k : Nat} (hk : k < o.length) : 0 ≤ o.getD k 0 ∧ o.getD k 0 < (c.length : Int) ∧ o.length = c.length ∧ c.length ≤ 16 := by
  simp only [Sc.isOrder, Sc.isOrd, Bool.and_eq_true, List.all_eq_true, List.mem_range, beq_iff_eq] at h
  have h1 := nextOk_range (h.2.2 k hk)
  exact ⟨h1.1, h1.2, h.2.1, Sc.len_of_valid h.1⟩
theorem moved_at {c : List Sc.St} {o : List Int} {k : Nat} (h : k < o.length) : Sc.nth (moved c o) k = Sc.nth c (o.getD k 0).toNat := by
  rw [Sc.nth, List.getD_eq_getElem?_getD, moved, List.getElem?_map, List.getElem?_eq_getElem h, List.getD_eq_getElem?_getD, List.getElem?_eq_getElem h]; rfl
theorem take_nth {ss : List Sc.St} {k : Nat} (h : k < ss.length) : ss.take (k + 1) = ss.take k ++ [Sc.nth ss k] := by
  rw [List.take_succ_eq_append_getElem h, Sc.nth, List.getD_eq_getElem?_getD, List.getElem?_eq_getElem h]; rfl
set_option maxHeartbeats 1000000 in
/-- The code's loop: the statements that have the given indices, in new memory. -/
theorem elemsS_any (A : Option Addr) (n c : Nat) (ss : List Sc.St) (B : Nat) (A' : Option Addr) (n' c' : Nat) (zs : List Int) (B' : Nat) (w1 : World) (hn : n ≤ 1048576) (hn' : n' ≤ 1048576) (h : RdS w1 B A n ss) (h' : Rd w1 B' A' n' zs)
    (hat : ∀ k, k < n' → 0 ≤ zs.getD k 0 ∧ zs.getD k 0 < (n : Int)) :
    Calls Try.prog 45 #[.slice A n c, .slice A' n' c'] w1 fun e w' => ∃ g, e = .returned (.slice (some ⟨g, 0, none⟩) n' n') ∧ OwnS w' w1.heap.size w'.heap.size (some ⟨g, 0, none⟩) n' (moved ss zs) ∧ Below w1.heap.size w1 w' := by
  obtain ⟨i0, hi, hz0, hz1, hz2⟩ := info_parts A_infoS
  have HL := Lib.hid h.len
  have hl' := h'.len
  have H1 := Lib.hid h
  have H1' := Lib.hid h'
  have HAT := Lib.hid hat
  have HL' := Lib.hid hl'
  have HML := Lib.hid (show (moved ss zs).length = n' by rw [moved, List.length_map, hl'])
  clear hat hl' h h'
  go_enter Try.func45, Try.ntmps45
  go_wp2_with (refine wpList_make_st _ rfl _ _ _ rfl i0 Try.underlying24 hi hz0 hz1 hz2 _ _ _ _ n' rfl rfl rfl rfl (by omega) ?_)
  go_loopw [13] (fun i wr => ∃ k : Nat, k ≤ n' ∧ i = .int .i64 k ∧ BlkS wr w1.heap.size (cllS (fillS (moved ss zs) k)) ∧ Below w1.heap.size w1 wr) (fun i _ => n' - (intOf i).toNat)
  case atStart =>
    exact ⟨0, Nat.zero_le _, rfl, by rw [fillS_zero, HML.out]; exact BlkS.new _ _, (Below.refl _ _).alloc (Nat.le_refl _) _⟩
  case round =>
    obtain ⟨k, hk, rfl, hblk, hb⟩ := hrel
    by_cases hlt : k < n'
    · obtain ⟨g', o', rfl, hg', hc1⟩ := (H1'.out.below hb).at_ hlt
      obtain ⟨j0, j1⟩ := HAT.out k hlt
      obtain ⟨j, hj⟩ : ∃ j, j = zs.getD k 0 := ⟨_, rfl⟩
      have hma := moved_at (c := ss) (o := zs) (k := k) (by rw [HL'.out]; exact hlt)
      rw [← hj] at hc1 j0 j1 hma
      obtain ⟨y, rfl⟩ := Int.eq_ofNat_of_zero_le j0
      rw [Int.toNat_natCast] at hma
      obtain ⟨g, o, rfl, hg, c0, c1, c2, c3⟩ := (H1.out.below hb).at_ (k := y) (by omega)
      obtain ⟨x, hx⟩ : ∃ x, x = Sc.nth ss y := ⟨_, rfl⟩
      rw [← hx] at c0 c1 c2 c3 hma
      have hl := fillS_len (moved ss zs) k (by rw [HML.out]; exact hk)
      have hkl : k < (fillS (moved ss zs) k).length := by rw [hl, HML.out]; exact hlt
      obtain ⟨t0, t1, t2, t3⟩ := hblk.has hkl
      have f0 := hblk.frozen (k * 4)
      have f1 := hblk.frozen (k * 4 + 1)
      have f2 := hblk.frozen (k * 4 + 2)
      have f3 := hblk.frozen (k * 4 + 3)
      generalize Sc.nth (fillS (moved ss zs) k) k = old at t0 t1 t2 t3
      have HX := Lib.hid hma
      obtain ⟨p, d, a, b⟩ := x
      have HK2 := Lib.hid (hblk.set4 hkl ⟨p, d, a, b⟩)
      have HB2 := Lib.hid (below_set4 (i := k * 4) hb (Nat.le_refl _) (.int .i64 p) (.int .i64 d) (.int .i64 a) (.int .i64 b))
      simp only at c0 c1 c2 c3 t0 t1 t2 t3
      have hlt1 : (k : Int) < (n' : Int) := by omega
      clear hma hx hj hblk hb hl hkl
      go_wp2
      go_roundw
      case rel =>
        refine ⟨k + 1, by omega, by go_num, ?_, HB2.out⟩
        have := HK2.out
        rw [← HX.out, fillS_set _ k (by rw [HML.out]; exact hlt)] at this
        rw [HX.out] at this
        exact this
      case measure => simp [intOf]; omega
    · have hkn : k = n' := by omega
      have HALL := Lib.hid (And.intro hblk (And.intro hb hkn)); clear hblk hb hkn
      go_wp2
      go_ret
      obtain ⟨hblk, hb, rfl⟩ := HALL.out
      rw [show fillS (moved ss zs) k = moved ss zs by rw [← HML.out]; exact fillS_all _] at hblk
      exact ⟨_, rfl, OwnS.of_blk hblk HML.out (Nat.le_refl _), hb⟩
set_option maxHeartbeats 1000000 in
theorem iReorderCode_any (A : Option Addr) (n c : Nat) (ss : List Sc.St) (B : Nat) (A' : Option Addr) (n' c' : Nat) (zs : List Int) (B' : Nat) (w : World) (hn : n ≤ 1048576) (hc : n ≤ c) (hn' : n' ≤ 1048576) (hc' : n' ≤ c') (h : RdS w B A n ss) (h' : Rd w B' A' n' zs) :
    Calls Try.prog 24 #[.slice A n c, .slice A' n' c'] w (Ret1S (reorder2 ss zs).1 (reorder2 ss zs).2 w) := by
  have C := Lib.hid (iIsOrder_any A n c ss B A' n' c' zs B' w hn hc hn' hc' h h')
  have hl := h.len
  have hl' := h'.len
  have H := Lib.hid h
  have H' := Lib.hid h'
  clear h h'
  unfold reorder2
  obtain ⟨v, hv⟩ : ∃ v, v = Sc.isOrder ss zs := ⟨_, rfl⟩
  rw [← hv] at C ⊢
  cases v
  · rw [if_neg (by simp)]
    clear hl hl' hv
    go_enter Try.func24, Try.ntmps24
    go_wp2_with fail
    refine C.out.mono ?_
    rintro e w1 ⟨rfl, hb⟩
    have HB := Lib.hid hb; clear hb
    go_wp2
    go_ret2
    exact Ret1S.no HB.out
  · rw [if_pos rfl]
    have HAT := Lib.hid (show ∀ k, k < n' → 0 ≤ zs.getD k 0 ∧ zs.getD k 0 < (n : Int) from fun k hk => by
      have := isOrder_at (k := k) hv.symm (by rw [hl']; exact hk)
      rw [hl] at this
      exact ⟨this.1, this.2.1⟩)
    clear hv hl hl'
    go_enter Try.func24, Try.ntmps24
    go_wp2_with fail
    refine C.out.mono ?_
    rintro e w1 ⟨rfl, hb⟩
    have H1 := Lib.hid (H.out.below hb)
    have H1' := Lib.hid (H'.out.below hb)
    have HB1 := Lib.hid hb; clear hb
    go_wp2_with fail
    refine (elemsS_any A n c ss B A' n' c' zs B' w1 hn hn' H1.out H1'.out HAT.out).mono ?_
    rintro e w2 ⟨g, rfl, ho, hb⟩
    have HO := Lib.hid (ho.more HB1.out.size (Nat.le_refl _))
    have HB2 := Lib.hid (HB1.out.trans (hb.mono HB1.out.size))
    clear ho hb
    go_wp2
    go_ret2
    exact ⟨_, n', n', rfl, HO.out, hn', HB2.out⟩
end Go.Proofs.Ytbaiaahdjkjjoaa.Wds
