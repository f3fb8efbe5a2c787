/-
  Copies of a list, two lists joined, both halves of a list: one contract each.
-/
import Derived.Test.YtfmplneopmbfoaaPush
import Derived.Laws.AppendOwnNone
import Derived.Laws.CopyOwn
namespace Go.Proofs.Ytfmplneopmbfoaa.Wds
open Go.RowKit
set_option linter.unusedVariables false

theorem int_one {zs : List Int} : ∀ u ∈ zs.map (Value.int .i64), u.oneCell' = true := by
  intro u hu; obtain ⟨z, _, rfl⟩ := List.mem_map.1 hu; rfl
/-- The cells of a list that is read, as the laws of append and copy ask for them. -/
theorem Rd.src {w : World} {B n : Nat} {A : Option Addr} {zs : List Int} (h : Rd w B A n zs) (ad : Addr) (hA : A = some ad) : ∀ j u, (zs.map (Value.int .i64))[j]? = some u → w.cell? (ad.add j) = some u := by
  intro j u hu
  rw [List.getElem?_map] at hu
  cases hz : zs[j]? with
  | none => rw [hz] at hu; cases hu
  | some z =>
    rw [hz] at hu
    have hj : j < n := by rw [← h.1]; exact (List.getElem?_eq_some_iff.1 hz).1
    obtain ⟨g, o, e, _, hc⟩ := h.2 (by omega)
    rw [hA] at e
    injection e with e
    subst e
    have := hc j z hz
    injection hu with hu
    subst hu
    by_cases h0 : j = 0
    · subst h0; simpa [Addr.add] using this
    · simpa [Addr.add, h0] using this
/-- append([]int64{}, list...): the law at the operation. -/
theorem wpList_append_list {P : Program} {ops : Array Oper} {rest : List Oper} {o : Oper} {a : Act} {Q : Exit → Act → World → Prop} (w : World) (hgd : o.guard = none) (s x : Operand)
    (ho : o.op = .call { callee := .builtin .append, args := #[s, x], argTypes := #[25, 25] })
    (i : TypeInfo) (ht : P.underlying 25 = some (.slice 2)) (hi : P.info? 2 = some i) (hz : i.zero = some (.int .i64 0)) (hsize : i.size = 1) (hby : i.bytes = 8)
    (base : Nat) (v : Value) (n : Nat) (xs : List Int) (hs : a.eval s = v) (hown : w.ownsRow base 2 1 v n (xs.map (Value.int .i64)))
    (B : Nat) (A : Option Addr) (m c : Nat) (zs : List Int) (hx : a.eval x = .slice A m c) (hrd : Rd w B A m zs) (hc : A = none → c = 0) (hn : n + m ≤ 1099511627776) (hbase : base ≤ w.heap.size)
    (h : ∀ v' w', w'.ownsRow base 2 1 v' (n + m) ((xs ++ zs).map (Value.int .i64)) → Below base w w' → wpList P ops Q rest (a.put o.dst v') w') :
    wpList P ops Q (o :: rest) a w := by
  rcases A with _ | ad
  · have hm : m = 0 := by
      rcases Nat.eq_zero_or_pos m with h0 | h0
      · exact h0
      · obtain ⟨g, o, e, _⟩ := hrd.2 h0; cases e
    subst hm
    have hz0 : zs = [] := List.eq_nil_of_length_eq_zero hrd.1
    subst hz0
    have := hc rfl; subst this
    refine wpList_append_own_none hgd s x 25 ho base 2 i 1 ht hi v n _ hs hown hx ?_
    exact h v w (by simpa using hown) (Below.refl _ _)
  · refine wpList_append_own _ hgd s x 25 ho base 2 i (.int .i64 0) 1 8 ht hi hz hsize hby rfl (by decide) v n _ hs hown ad m c (zs.map (Value.int .i64)) hx (by simp [hrd.1]) (hrd.src ad rfl) int_one ?_ ?_ hbase ?_
    · unfold maxLen; omega
    · omega
    · intro v' w' hown' hg _
      refine h v' w' (by simpa using hown') ?_
      refine (Below.refl base w).grown hg hbase fun r hr => ?_
      rcases hown.2 with ⟨rfl, _⟩ | ⟨g, cp, cur, rfl, hg', _⟩
      · cases hr
      · simp only [Value.ownBlock, Option.some.injEq] at hr; omega
theorem owns_new (w : World) : (w.alloc (.cells #[] 2)).ownsRow w.heap.size 2 1 (.slice (some ⟨w.heap.size, 0, none⟩) 0 0) 0 (([] : List Int).map (Value.int .i64)) := by
  refine ⟨rfl, .inr ⟨w.heap.size, 0, #[], rfl, Nat.le_refl _, ?_, Nat.le_refl _, Nat.zero_le _, rfl, rfl⟩⟩
  show (w.heap.push _)[w.heap.size]? = _
  simp
theorem sOwn_any (ad : Addr) (n c : Nat) (zs : List Int) (B : Nat) (w : World) (hn : n ≤ 1048576) (h : Rd w B (some ad) n zs) :
    Calls Try.prog 70 #[.slice (some ad) n c] w (RetL zs w) := by
  obtain ⟨i0, hi, hz0, hz1, hz2⟩ := info_parts A_info64
  have H := Lib.hid (h.below ((Below.refl w.heap.size w).alloc (Nat.le_refl _) (.cells #[] 2))); clear h
  have HO := Lib.hid (owns_new w)
  go_enter Try.func70, Try.ntmps70
  go_wp2_with (at_builtin; refine wpList_append_list _ rfl _ _ rfl i0 Try.underlying25 hi hz0 hz1 hz2 w.heap.size _ _ [] rfl HO.out B _ _ _ zs rfl H.out (by intro h; cases h) (by omega) (by simp) ?_; intro v' w1 hown1 hb1; have HO1 := Lib.hid hown1; have HB1 := Lib.hid hb1; clear hown1 hb1)
  go_ret
  exact RetL.of_row (n := 0 + n) HO1.out (by omega) (((Below.refl w.heap.size w).alloc (Nat.le_refl _) _).trans HB1.out)
theorem eql_nil (ad : Addr) (n c : Nat) (W : World) : (binOp .eql 25 (.slice (some ad) n c) (.slice none 0 0)).run Try.prog W = .ok (.bool false) W := by
  simp only [binOp]
  simp [run_equal_slice_nil W 25 2 (some ad) n c Try.underlying25]
theorem splice_two (zs ys : List Int) : splice (splice (List.replicate (zs.length + ys.length) (Value.int .i64 0)) 0 (zs.map (Value.int .i64))) zs.length (ys.map (Value.int .i64)) = (zs ++ ys).map (Value.int .i64) := by
  simp [splice]
theorem joined_any (ad ad' : Addr) (n n' c c' : Nat) (zs ys : List Int) (B B' : Nat) (w : World) (hn : n ≤ 1048576) (hn' : n' ≤ 1048576) (hp : 0 < n') (h : Rd w B (some ad) n zs) (h' : Rd w B' (some ad') n' ys) :
    Calls Try.prog 53 #[.slice (some ad) n c, .slice (some ad') n' c'] w fun e w' => ∃ g, e = .returned (.slice (some ⟨g, 0, none⟩) (n + n') (n + n')) ∧ Blk w' g (clls (zs ++ ys)) ∧ w.heap.size ≤ g ∧ Below w.heap.size w w' := by
  obtain ⟨i0, hi, hz0, hz1, hz2⟩ := info_parts A_info64
  have hsz : (Try.prog.info? 2).map (·.size) = some 1 := by rw [hi]; simp [hz1]
  have hbA : Below w.heap.size w (w.alloc (.cells (Array.replicate (n + n') (Value.int .i64 0)) 2)) := (Below.refl w.heap.size w).alloc (Nat.le_refl _) _
  have H := Lib.hid (h.below hbA)
  have HSZ := Lib.hid hsz
  have HBA := Lib.hid hbA
  have hl := h.len
  have hl' := h'.len
  have HBK := Lib.hid (show (w.alloc (.cells (Array.replicate (n + n') (Value.int .i64 0)) 2)).heap[w.heap.size]? = some (.cells (List.replicate (n + n') (Value.int .i64 0)).toArray 2 (0, 0)) by
    have := heap_alloc_new w (.cells (Array.replicate (n + n') (Value.int .i64 0)) 2)
    simpa using this)
  have H0 := Lib.hid h
  have H0' := Lib.hid h'
  have e1 : IntKind.i64.wrap ((n : Int) + (n' : Int)) = ((n + n' : Nat) : Int) := by rw [IntKind.wrap_i64]; omega
  have HL := Lib.hid (And.intro hl hl')
  clear hbA h h' hl hl' hsz
  go_enter Try.func53, Try.ntmps53
  go_wp2_with (first | (refine wpList_make_blk _ rfl _ _ _ rfl i0 Try.underlying25 hi hz0 hz1 hz2 _ _ _ _ (n + n') rfl rfl (by simp) (by simp) (by omega) ?_) | (refine wpList_copy_splice rfl (.tmp 12) (.tmp 13) 25 25 rfl 2 Try.underlying25 HSZ.out (some ⟨w.heap.size, 0, none⟩) (some ad) (n + n') (n + n') n c (by rfl) (by rfl) w.heap.size 0 (List.replicate (n + n') (Value.int .i64 0)) 2 HBK.out (zs.map (Value.int .i64)) (by rw [List.length_map, HL.out.1]; exact (Nat.min_eq_left (Nat.le_add_right _ _)).symm) (fun _ => ⟨rfl, _, rfl, H.out.src _ rfl⟩) (by simp; have := HL.out.1; omega) int_one w.heap.size w HBA.out (Nat.le_refl _) ?_; intro w1 hg1 hb1; have HB1 := Lib.hid hb1; clear hb1) | (refine wpList_copy_splice rfl (.tmp 18) (.tmp 19) 25 25 rfl 2 Try.underlying25 HSZ.out (some ⟨w.heap.size, n, none⟩) (some ad') _ _ n' c' (by rfl) (by rfl) w.heap.size n (splice (List.replicate (n + n') (Value.int .i64 0)) 0 (zs.map (Value.int .i64))) 2 hg1.out (ys.map (Value.int .i64)) (by rw [List.length_map, HL.out.2]; simp) (fun _ => ⟨rfl, _, rfl, (H0'.out.below HB1.out).src _ rfl⟩) (by rw [length_splice _ _ _ (by simp; have := HL.out.1; omega)]; simp; have := HL.out.2; omega) int_one w.heap.size w HB1.out (Nat.le_refl _) ?_; intro w2 hg2 hb2; have HB2 := Lib.hid hb2; clear hb2))
  go_ret
  refine ⟨w.heap.size, rfl, ?_, Nat.le_refl _, HB2.out⟩
  have hg := hg2.out
  obtain ⟨e1, e2⟩ := HL.out
  rw [← e1, ← e2, splice_two] at hg
  exact hg
end Go.Proofs.Ytfmplneopmbfoaa.Wds
