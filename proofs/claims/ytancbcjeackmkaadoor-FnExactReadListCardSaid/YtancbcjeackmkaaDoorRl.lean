/-
  ReadList: what the model's and the code's function answer.
-/
import Derived.Test.YtancbcjeackmkaaDoorPush
import Derived.Test.YtancbcjeackmkaaDoorRd
import Derived.Test.YtancbcjeackmkaaDoorCut
namespace Wd
/-- The list with a text. -/
def okP (p : List UInt8) : Prop := (rdV p).isSome = true
instance (p : List UInt8) : Decidable (okP p) := by unfold okP; infer_instance
def valP (ps : List (List UInt8)) (k : Nat) : Int := (rdV (ps.getD k [])).getD 0
def rdL (l : List UInt8) : List Int × Bool :=
  if l = [110, 111, 110, 101] then ([], true) else if (cut 44 l).length ≤ 70 ∧ ∀ p ∈ cut 44 l, okP p then (Ln.tab (valP (cut 44 l)) (cut 44 l).length, true) else Ln.no
theorem all_of {ps : List (List UInt8)} {n : Nat} (hn : ps.length ≤ n) (h : ∀ j, j < n → okP (ps.getD j [])) : ∀ p ∈ ps, okP p := by
  intro p hp
  obtain ⟨j, hj, rfl⟩ := List.getElem_of_mem hp
  have := h j (by omega)
  rwa [List.getD_eq_getElem?_getD, List.getElem?_eq_getElem hj] at this
theorem not_all {ps : List (List UInt8)} {k : Nat} (hk : k < ps.length) (h : ¬ okP (ps.getD k [])) : ¬ ∀ p ∈ ps, okP p := by
  intro ha
  apply h
  rw [List.getD_eq_getElem?_getD, List.getElem?_eq_getElem hk]
  exact ha _ (List.getElem_mem hk)
end Wd
namespace Go.Proofs.YtancbcjeackmkaaDoor.Wds
open Go.RowKit
set_option linter.unusedVariables false
theorem blkT_ne {w : World} {g : Nat} {cs : Array Value} (hb : BlkT w g cs) {B n : Nat} {v : Value} {xs : List Value} (hv : w.ownsRow B 2 1 v n xs) : some g ≠ v.ownBlock := by
  rcases hv.2 with ⟨rfl, _⟩ | ⟨g', cp, cur, rfl, _, hh, _⟩
  · intro hr; cases hr
  · intro e'
    simp only [Value.ownBlock, Option.some.injEq] at e'
    subst e'
    unfold BlkT at hb
    rw [hh] at hb
    have := Option.some.inj hb
    injection this with _ h2
    exact absurd h2 (by decide)
theorem rowT {w w' : World} {B : Nat} {e : TypeId} {s : Nat} {v : Value} {n : Nat} {xs : List Value} (h : w.ownsRow B e s v n xs) (hb : Below w.heap.size w w') : w'.ownsRow B e s v n xs := by
  refine ⟨h.1, ?_⟩
  rcases h.2 with h0 | ⟨g, cp, cur, h1, h2, h3, h4⟩
  · exact .inl h0
  · exact .inr ⟨g, cp, cur, h1, h2, (hb.block g (lt_of_block h3)).trans h3, h4⟩
theorem wpList_pushK {P : Program} {ops : Array Oper} {rest : List Oper} {o : Oper} {a : Act} {Q : Exit → Act → World → Prop} (w : World) (hgd : o.guard = none) (s x : Operand)
    (ho : o.op = .call { callee := .builtin .append, args := #[s, x], argTypes := #[27, 27] })
    (i : TypeInfo) (ht : P.underlying 27 = some (.slice 2)) (hi : P.info? 2 = some i) (hz : i.zero = some (.int .i64 0)) (hsize : i.size = 1) (hby : i.bytes = 8)
    (base : Nat) (v : Value) (n : Nat) (xs : List Int) (z : Int) (hs : a.eval s = v) (hown : w.ownsRow base 2 1 v n (xs.map (Value.int .i64)))
    (hx : a.eval x = .slice (some ⟨w.heap.size, 0, none⟩) 1 1) (hn : n ≤ 1099511627776) (hbase : base ≤ w.heap.size)
    (h : ∀ v' w', w'.ownsRow base 2 1 v' (n + 1) ((xs ++ [z]).map (Value.int .i64)) → Below base w w' → Hid (∀ g cs, BlkT w g cs → BlkT w' g cs) → wpList P ops Q rest (a.put o.dst v') w') :
    wpList P ops Q (o :: rest) a (w.alloc (.cells #[.int .i64 z] 2)) := by
  refine wpList_append_own _ hgd s x 27 ho base 2 i (.int .i64 0) 1 8 ht hi hz hsize hby rfl (by decide) v n _ hs (hown.alloc _) ⟨w.heap.size, 0, none⟩ 1 1 [.int .i64 z] hx rfl ?_ ?_ ?_ ?_ ?_ ?_
  · intro j u hj
    match j, hj with
    | 0, hj => simp at hj; subst hj; simp [Addr.add]
  · intro u hu; simp at hu; subst hu; rfl
  · unfold maxLen; omega
  · omega
  · simp; omega
  · intro v' w' hown' hg _
    have hb0 : Below w.heap.size w (w.alloc (.cells #[.int .i64 z] 2)) := (Below.refl _ _).alloc (Nat.le_refl _) _
    refine h v' w' (by simpa using hown') ?_ (Lib.hid fun g cs hb => by
      have h1 := hb.keep hb0
      exact (hg.block g h1.lt (blkT_ne h1 (hown.alloc _))).trans h1)
    have hb1 : Below base w (w.alloc (.cells #[.int .i64 z] 2)) := (Below.refl base w).alloc hbase _
    refine hb1.grown hg (by simp; omega) fun r hr => ?_
    rcases hown.2 with ⟨rfl, _⟩ | ⟨g, cp, cur, rfl, hg', _⟩
    · cases hr
    · simp only [Value.ownBlock, Option.some.injEq] at hr; omega
theorem owns_newT (w : World) : (w.alloc (.cells #[] 2)).ownsRow w.heap.size 2 1 (.slice (some ⟨w.heap.size, 0, none⟩) 0 0) 0 (([] : List Int).map (Value.int .i64)) := by
  refine ⟨rfl, .inr ⟨w.heap.size, 0, #[], rfl, Nat.le_refl _, ?_, Nat.le_refl _, Nat.zero_le _, rfl, rfl⟩⟩
  show (w.heap.push _)[w.heap.size]? = _
  simp
/-- The model's loop: what is appended, and the row of the parts as it was. -/
def Nums (f : Nat → Int) (ok : Nat → Prop) (n g : Nat) (cs : Array Value) (w : World) (v i : Value) (wr : World) : Prop :=
  ∃ k : Nat, k ≤ n ∧ i = .int .i64 k ∧ Hid (wr.ownsRow w.heap.size 2 1 v k ((Ln.tab f k).map (Value.int .i64))) ∧ Hid (Below w.heap.size w wr) ∧ Hid (BlkT wr g cs) ∧ Hid (∀ j, j < k → ok j)
theorem part_at {ps : List ByteArray} {k : Nat} (hk : k < ps.length) : ∃ x, ps[k]? = some x ∧ (ps.map (·.data.toList)).getD k [] = x.data.toList := by
  refine ⟨ps[k], List.getElem?_eq_getElem hk, ?_⟩
  rw [List.getD_eq_getElem?_getD, List.getElem?_map, List.getElem?_eq_getElem hk]; rfl
/-- A part of a text is no longer than the text. -/
theorem cut_small (m : UInt8) (l : List UInt8) : ∀ p ∈ Wd.cut m l, p.length ≤ l.length := by
  induction l with
  | nil => intro p hp; simp [Wd.cut] at hp; subst hp; simp
  | cons c r ih =>
    intro p hp
    by_cases h : c = m
    · subst h
      rw [Wd.cut_eq] at hp
      rcases List.mem_cons.1 hp with rfl | hp
      · simp
      · have := ih p hp; simp; omega
    · rw [Wd.cut_step h] at hp
      cases hX : Wd.cut m r with
      | nil => exact absurd hX (Wd.cut_ne _ _)
      | cons q qs =>
        rw [hX] at hp ih
        simp only [Wd.addH] at hp
        rcases List.mem_cons.1 hp with rfl | hp
        · have := ih q (List.mem_cons_self ..); simp; omega
        · have := ih p (List.mem_cons_of_mem _ hp); simp; omega
theorem part_small {m : UInt8} {l : List UInt8} {ps : List ByteArray} (h : ps.map (·.data.toList) = Wd.cut m l) {k : Nat} {x : ByteArray} (hx : ps[k]? = some x) : x.size ≤ l.length := by
  have : x.data.toList ∈ Wd.cut m l := by rw [← h]; exact List.mem_map.2 ⟨x, List.mem_of_getElem? hx, rfl⟩
  have := cut_small m l _ this
  simpa using this
set_option maxRecDepth 100000 in
theorem numbers_any (s : ByteArray) (w : World) (hm : s.size ≤ 1048576) :
    Calls Tryd.prog 38 #[.string s] w (Ret1 (Wd.rdL s.data.toList).1 (Wd.rdL s.data.toList).2 w) := by
  have hlen : s.data.toList.length = s.size := by simp
  by_cases hnone : s.data.toList = [110, 111, 110, 101]
  · have hb : (s.toList == [110, 111, 110, 101]) = true := by rw [beq_iff_eq, ByteArray.toList_eq]; exact hnone
    have HE := Lib.hid (show Wd.rdL s.data.toList = ([], true) by unfold Wd.rdL; rw [if_pos hnone])
    clear hnone hlen
    go_enter Tryd.func38, Tryd.ntmps38
    go_wp2
    go_ret2
    rw [HE.out]
    exact ⟨_, 0, 0, rfl, Own.nil _ _ _ _, Nat.zero_le _, (Below.refl _ _).alloc (Nat.le_refl _) _⟩
  have hb : (s.toList == [110, 111, 110, 101]) = false := by rw [beq_eq_false_iff_ne, ByteArray.toList_eq]; exact hnone
  have HR := Lib.hid (show Wd.rdL s.data.toList = if (Wd.cut 44 s.data.toList).length ≤ 70 ∧ ∀ p ∈ Wd.cut 44 s.data.toList, Wd.okP p then (Ln.tab (Wd.valP (Wd.cut 44 s.data.toList)) (Wd.cut 44 s.data.toList).length, true) else Ln.no by unfold Wd.rdL; rw [if_neg hnone])
  have HL := Lib.hid hlen
  have C := Lib.hid (fun (W : World) => cut_any 44 44 rfl s W hm)
  obtain ⟨i0, hi, hz0, hz1, hz2⟩ := info_parts A_info64
  clear hnone hlen
  go_enter Tryd.func38, Tryd.ntmps38
  go_wp2_with fail
  refine (C.out _).mono ?_
  rintro e w1 ⟨g, c, cs, ps, rfl, hps, hpos, hple, hg1, hblk, hcs, hbel⟩
  have hB0 : Below w.heap.size w (w.alloc (.cells #[] 2)) := (Below.refl _ _).alloc (Nat.le_refl _) _
  have HBW := Lib.hid (hB0.trans (hbel.mono hB0.size))
  have HOW := Lib.hid (rowT (owns_newT w) hbel)
  have HBLK := Lib.hid hblk
  have HCS := Lib.hid hcs
  have HPS := Lib.hid hps
  obtain ⟨n, hn⟩ : ∃ n, n = ps.length := ⟨_, rfl⟩
  have hcl : (Wd.cut 44 s.data.toList).length = n := by rw [← hps, List.length_map, hn]
  have HCL := Lib.hid hcl
  rw [← hn] at hpos hple
  have HN := Lib.hid hn
  rw [← hn]
  clear hbel hB0 hblk hcs hps hcl hn hg1
  by_cases h70 : n ≤ 70
  rotate_left
  · have l1 : (70 : Int) < n := by omega
    have HE := Lib.hid (show Wd.rdL s.data.toList = Ln.no by rw [HR.out, if_neg]; intro hh; have := hh.1; rw [HCL.out] at this; omega)
    clear h70
    go_wp2
    go_ret2
    rw [HE.out]
    exact Ret1.no HBW.out
  have l1 : ¬ (70 : Int) < n := by omega
  go_wp2
  go_loopw [4, 6] (fun v i wr => Nums (Wd.valP (Wd.cut 44 s.data.toList)) (fun j => Wd.okP ((Wd.cut 44 s.data.toList).getD j [])) n g cs w v i wr) (fun _ i _ => n - (intOf i).toNat)
  case atStart => exact ⟨0, Nat.zero_le _, rfl, HOW, HBW, HBLK, Lib.hid (fun j hj => by omega)⟩
  case round =>
    obtain ⟨k, hk, rfl, HO, HB, HK, HA⟩ := hrel
    by_cases hlt : k < n
    · obtain ⟨x, hx, hxe⟩ := part_at (ps := ps) (k := k) (by rw [← HN.out]; exact hlt)
      have hcell := (HK.out.cell k).trans (HCS.out k x hx)
      have hxs := part_small HPS.out hx
      rw [HL.out] at hxs
      rw [HPS.out] at hxe
      have c1 := fun (W : World) => value_any x W (by omega)
      rw [← hxe] at c1
      clear hx
      cases hv : Wd.rdV ((Wd.cut 44 s.data.toList).getD k []) with
      | none =>
        rw [hv] at c1
        have C1 := Lib.hid c1; clear c1
        have HE := Lib.hid (show Wd.rdL s.data.toList = Ln.no by
          rw [HR.out, if_neg]; intro hh; exact Wd.not_all (k := k) (by rw [HCL.out]; exact hlt) (by unfold Wd.okP; rw [hv]; decide) hh.2)
        clear hv hxe
        go_wp2_with (go_at_call 32; refine (C1.out _).mono ?_; rintro e w2 ⟨rfl, hb2⟩; unfold rdE; have HB2 := Lib.hid (HB.out.trans (hb2.mono HB.out.size)); clear hb2)
        go_ret2
        rw [HE.out]
        exact Ret1.no HB2.out
      | some z =>
        rw [hv] at c1
        have C1 := Lib.hid c1; clear c1
        have HZ := Lib.hid (show z = Wd.valP (Wd.cut 44 s.data.toList) k by unfold Wd.valP; rw [hv]; rfl)
        have HA2 := Lib.hid (show ∀ j, j < k + 1 → Wd.okP ((Wd.cut 44 s.data.toList).getD j []) by
          intro j hj
          rcases Nat.lt_or_ge j k with h | h
          · exact HA.out j h
          · obtain rfl : j = k := by omega
            unfold Wd.okP; rw [hv]; rfl)
        clear hv hxe
        go_wp2_with (first | (go_at_call 32; refine (C1.out _).mono ?_; rintro e w2 ⟨rfl, hb2⟩; unfold rdE; have HB2 := Lib.hid (HB.out.trans (hb2.mono HB.out.size)); have HO2 := Lib.hid (rowT HO.out hb2); have HK2 := Lib.hid (HK.out.keep hb2); clear hb2) | (at_builtin; refine wpList_pushK _ rfl _ _ rfl i0 Tryd.underlying27 hi hz0 hz1 hz2 _ _ _ _ _ rfl HO2.out rfl (by omega) HB2.out.size ?_; intro v' w3 hown1 hb1 hk1; have HO3 := Lib.hid hown1; have HB3 := Lib.hid (HB2.out.trans hb1); have HK3 := Lib.hid (hk1.out _ _ HK2.out); clear hown1 hb1 hk1))
        go_roundw
        case rel => exact ⟨k + 1, by omega, by go_num, Lib.hid (by have := HO3.out; rw [HZ.out, ← Ln.tab_succ] at this; exact this), HB3, HK3, HA2⟩
        case measure => simp [intOf]; omega
    · have hkn : k = n := by omega
      have HE := Lib.hid (show Wd.rdL s.data.toList = (Ln.tab (Wd.valP (Wd.cut 44 s.data.toList)) n, true) by
        rw [HR.out, if_pos ⟨by rw [HCL.out]; exact h70, Wd.all_of (n := n) (by rw [HCL.out]; exact Nat.le_refl _) (by rw [← hkn]; exact HA.out)⟩, HCL.out])
      subst hkn
      go_wp2
      go_ret2
      rw [HE.out]
      exact Ret1.of_row HO.out (by omega) HB.out
end Go.Proofs.YtancbcjeackmkaaDoor.Wds
